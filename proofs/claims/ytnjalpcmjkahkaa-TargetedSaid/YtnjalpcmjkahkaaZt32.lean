/- The machine of layer 21: an operation that goes further out, or a value that is no computation. -/
import Derived.Test.YtnjalpcmjkahkaaZt17
import Derived.Test.YtnjalpcmjkahkaaZt31
import Derived.Deep.DeepCutAuto
set_option maxRecDepth 100000
set_option maxHeartbeats 8000000
namespace Go.Proofs.Ytnjalpcmjkahkaa
open Go.RowKit
set_option linter.unusedVariables false
set_option linter.unusedSimpArgs false
theorem handle_fwd (B G : Nat) (tv fv sv : Value) (c : Mc) (l : List Fr) (ts : List Tg) (fur : List Int) (w : World) (stk : List RF) (f : RF) (x : Fr) (v : RV) (t : Th) (h : Hid (Wk B G tv fv sv c l ts stk f x v t w)) (hF : Hid (FvR B G w fv fur)) (hfl : fur.length = ts.length)
  (hfb : -1 ≤ fur.getD f.node.toNat 0 ∧ fur.getD f.node.toNat 0 ≤ 1000000000) (hel : f.env.list.length ≤ 900000000) (n : Int) (u k : RV) (d e : Option Addr) (tu te : Th) (hv : v = .op n u k) (ht : t = ⟨6, n, none, d, e⟩) (hbu : BxC (Bp G sv) w d tu) (hru : RR (Bp G sv) w u (.inl tu))
  (hbe : BxC (Bp G sv) w e te) (hrg : RR (Bp G sv) w k (.inl te)) (hnn : ¬ n = (ndT ts f.node).n) :
  Calls Try.prog 84 #[.pointer (some ⟨G, 0, none⟩), x.val, t.val] w (NsP c.w0 B G tv fv (rCase (ndT ts f.node) (fur.getD f.node.toNat 0) stk f.env v)) := by
 obtain ⟨F, fc, rfl, hFB, hFG, hFw, hFc⟩ := hF.out
 have c4 := h.out.mr.mc.c4
 have hst := Lib.hid h.out.stuck
 have hgv := Lib.hid fun u y W hb he => h.out.give (u := u) y W hb he
 have hbx := Lib.hid fun (W : World) (b o : Nat) (t : Th) h1 h2 h3 => h.out.mr.bx (w' := W) (b := b) (o := o) (t := t) h1 h2 h3
 obtain ⟨le, hE, hR⟩ := h.out.fr.2.2.1
 obtain ⟨fz, hfz2⟩ : ∃ z, fur.getD f.node.toNat 0 = z := ⟨_, rfl⟩
 rw [hfz2] at hfb ⊢
 have hat := Lib.hid fun (W : World) (hb : Below w.heap.size w W) => eAt_any W (.pointer x.en) le fz (Lib.hid (hE.below hb)) (by have := hR.len; omega) hfb
 have hra := Lib.hid (hR.at_ fz)
 obtain ⟨v5, ok, hvo, hvn, hvs⟩ := at_val (ansE le fz)
 rw [hvo, show v5.val = .agg #[.int .i64 v5.a, .int .i64 v5.b, .pointer v5.c, .pointer v5.d, .pointer v5.e] from rfl] at hat
 have hvn := Lib.hid hvn
 have hvs := Lib.hid hvs
 obtain ⟨s0, s1, s2, s3, s4⟩ := v5
 dsimp only at hat
 have hen := Lib.hid trivial
 have henv := Lib.hid trivial
 subst hv ht
 obtain ⟨R, hRn⟩ : ∃ R, rCase (ndT ts f.node) fz stk f.env (.op n u k) = R := ⟨_, rfl⟩
 have hRno := Lib.hid fun ha => (rCase_no (stk := stk) (u := u) (g := k) hnn ha : rCase (ndT ts f.node) fz stk f.env (.op n u k) = _)
 have hRat := Lib.hid fun who ha => (rCase_fwd (stk := stk) (u := u) (g := k) (who := who) hnn ha : rCase (ndT ts f.node) fz stk f.env (.op n u k) = _)
 rw [hRn]
 rw [hRn] at hRno hRat
 clear hRn
 obtain ⟨T, off, cp, i, rfl, hTw, hG, c3, hi, hfi, hxi, hT, hfz⟩ := h.out.open
 have hnT : ¬ Bq G T := h.out.mr_T
 obtain ⟨n, hn⟩ : ∃ n, ndT ts f.node = n := ⟨_, rfl⟩
 rw [hn] at hT hnn
 obtain ⟨xst, xnd, xen, ⟨y0, y1, y2, y3, y4⟩⟩ := x
 obtain ⟨xk, xa, xb, xc, xn, xx, xy, xz, xw⟩ := n
 obtain ⟨t0, t1, t2, t3, t4, t5, t6, t7, t8⟩ := hT
 dsimp only at hxi hat t0 t1 t2 t3 t4 t5 t6 t7 t8
 subst hxi
 dsimp only at hnn
 unfold Fr.val Th.val
 dsimp only
 have hF0 := hFc i (by omega)
 rw [show fur.getD i 0 = fz from by rw [← hfz2, hfi]; rfl] at hF0
 rw [hfl] at c4
 have hres := Lib.hid fun (W : World) (b gw : Nat) (who : RV) (tw : Th) (hb : Below w.heap.size w W) (h1 : w.heap.size ≤ b) (h2 : b < W.heap.size) (h3 : ThO W b 0 ⟨4, 0, none, e, some ⟨gw, 0, none⟩⟩) (h4 : w.heap.size ≤ gw) (h5 : gw < W.heap.size) (h6 : ThO W gw 0 tw) (h7 : RR (Bp G sv) W who (.inl tw)) =>
  op_thr (n := n) (k := .fwd k who) (tk := ⟨4, 0, none, e, some ⟨gw, 0, none⟩⟩) hbu hru hbe hrg hb (⟨e, te, some ⟨gw, 0, none⟩, tw, rfl, hbe.bar (Bar.of_below (S := fun _ => False) hb) (fun _ h => h.elim), hrg.below hb, hbx.out W gw 0 _ h4 h5 h6, h7⟩ : RR (Bp G sv) W (.fwd k who) (.inl ⟨4, 0, none, e, some ⟨gw, 0, none⟩⟩)) (hbx.out W b 0 _ h1 h2 h3)
 clear h hF hFc hfb hE hR hbu hru hbe hrg hfz2 hvo hfz
 go_enter Try.func84, Try.ntmps84
 go_wp2_with fail
 obtain ⟨W0, hW0⟩ : ∃ W, (w.alloc (.cells #[.int .i64 xst, .int .i64 i, .pointer xen, .int .i64 y0, .int .i64 y1, .pointer y2, .pointer y3, .pointer y4] 129)).alloc (.cells #[.int .i64 6, .int .i64 n, .pointer none, .pointer d, .pointer e] 56) = W := ⟨_, rfl⟩
 rw [hW0]
 obtain ⟨hb0, hs0, ⟨f0, f1, f2, f3, f4, f5, f6, f7⟩, ⟨v0, v1, v2, v3, v4⟩⟩ := bx_fv hW0
 have c3 : W0.cell? _ = _ := carry hb0 hG c3
 have t0 : W0.cell? _ = _ := carry hb0 hTw t0
 have t1 : W0.cell? _ = _ := carry hb0 hTw t1
 have t2 : W0.cell? _ = _ := carry hb0 hTw t2
 have t3 : W0.cell? _ = _ := carry hb0 hTw t3
 have t4 : W0.cell? _ = _ := carry hb0 hTw t4
 have t5 : W0.cell? _ = _ := carry hb0 hTw t5
 have t6 : W0.cell? _ = _ := carry hb0 hTw t6
 have t7 : W0.cell? _ = _ := carry hb0 hTw t7
 have t8 : W0.cell? _ = _ := carry hb0 hTw t8
 have hG0 : G < W0.heap.size := Nat.lt_of_lt_of_le hG hb0.size
 have hT0 : T < W0.heap.size := Nat.lt_of_lt_of_le hTw hb0.size
 have hl0 : w.heap.size < W0.heap.size := by omega
 have hl1 : w.heap.size + 1 < W0.heap.size := by omega
 have hb0 := Lib.hid hb0
 clear hW0 hs0
 have hnf : ¬ Bq G w.heap.size := fun e => by have e : w.heap.size = G := e; omega
 have hnv : ¬ Bq G (w.heap.size + 1) := fun e => by have e : w.heap.size + 1 = G := e; omega
 have hi0 : (0 : Int) ≤ (i : Int) := by omega
 have hi1 : (i : Int) < (ts.length : Int) := by omega
 have c4 : W0.cell? _ = _ := carry hb0.out hG c4
 go_region
 go_wp2_with fail
 obtain ⟨W3, hW3, hb3⟩ : ∃ W, W = (W0.alloc (.cells #[.int .i64 xk, .int .i64 xa, .int .i64 xb, .int .i64 xc, .int .i64 xn, .int .i64 xx, .int .i64 xy, .int .i64 xz, .int .i64 xw] 37)).drew ∧ Below W0.heap.size W0 W := ⟨_, rfl, by (repeat' (first | (with_reducible first | exact bR _ _ | assumption | apply bS | apply bA | apply bD | apply bN | exact bL _) | (simp; done) | (simp; omega) | omega | exact bL _))⟩
 rw [← hW3]
 have n2 : W3.cell? ⟨W0.heap.size, 2, none⟩ = some (.int .i64 xb) := by rw [hW3]; simp [go_sem]
 have n3 : W3.cell? ⟨W0.heap.size, 3, none⟩ = some (.int .i64 xc) := by rw [hW3]; simp [go_sem]
 have hl3 : W0.heap.size < W3.heap.size := by rw [hW3]; simp
 have hn3 : ¬ Bq G W0.heap.size := fun e => by have e : W0.heap.size = G := e; omega
 clear hW3
 have c4 : W3.cell? _ = _ := carry hb3 hG0 c4
 have f1 : W3.cell? _ = _ := carry hb3 hl0 f1
 have f2 : W3.cell? _ = _ := carry hb3 hl0 f2
 have v0 : W3.cell? _ = _ := carry hb3 hl1 v0
 have v1 : W3.cell? _ = _ := carry hb3 hl1 v1
 have v2 : W3.cell? _ = _ := carry hb3 hl1 v2
 have v3 : W3.cell? _ = _ := carry hb3 hl1 v3
 have v4 : W3.cell? _ = _ := carry hb3 hl1 v4
 have hG3 : G < W3.heap.size := Nat.lt_of_lt_of_le hG0 hb3.size
 have hf3 : w.heap.size < W3.heap.size := Nat.lt_of_lt_of_le hl0 hb3.size
 have hv3 : w.heap.size + 1 < W3.heap.size := Nat.lt_of_lt_of_le hl1 hb3.size
 have hb30 := Lib.hid (belT hb0.out hb3)
 clear hb3 hb0 t0 t1 t2 t3 t4 t5 t6 t7 t8 hG0 hl0 hl1 hT0
 have hF0 : W3.cell? _ = _ := carry hb30.out hFw hF0
 have hFW : F < W3.heap.size := Nat.lt_of_lt_of_le hFw hb30.out.size
 clear f0 f3 f4 f5 f6 f7 c3 n2 n3 hnf hnv hn3
 have hq : (n == xn) = false := by simp [hnn]
 simp only [hq]
 clear hq hnn
 go_cut [7, 8] (fun s7 s8 W => ∃ gw : Nat, s7 = .pointer (some ⟨gw, 0, none⟩) ∧ s8 = .bool ok ∧ ThC W gw ⟨s0, s1, s2, s3, s4⟩ ∧ W3.heap.size ≤ gw ∧ gw < W.heap.size ∧ Below W3.heap.size W3 W)
 case first =>
    refine wp_region_held_drew (S := fun W => Below W3.heap.size W3 W) (by kernel_rfl) ((Below.refl _ _).drew) (fun hHeld => ?_)
    refine rg_take 0 (some 68) (v := ?v1) rfl rfl (by kernel_rfl) (by kernel_rfl) (by kernel_rfl) (fun _ _ _ h => h) (by rfl) ?hy1 (by assumption) ?_
    case hy1 => intro W hSW; (try dsimp only at hSW); have z0 := carry hSW hf3 f2; have z1 := carry hSW hG3 c4; have z2 := carry hSW hf3 f1; have z3 := carry hSW hFW hF0; have q0 := Nat.lt_of_lt_of_le hG3 hSW.size; have q1 := Nat.lt_of_lt_of_le hf3 hSW.size; have q2 := Nat.lt_of_lt_of_le hFW hSW.size; go_simp; (try with_reducible rfl)
    try simp only [Act.put, bP, bQ, bT]
    refine rg_take 1 (some 69) (v := ?v2) rfl rfl (by kernel_rfl) (by kernel_rfl) (by kernel_rfl) (fun _ _ _ h => h) (by rfl) ?hy2 (by assumption) ?_
    case hy2 => intro W hSW; (try dsimp only at hSW); have z0 := carry hSW hf3 f2; have z1 := carry hSW hG3 c4; have z2 := carry hSW hf3 f1; have z3 := carry hSW hFW hF0; have q0 := Nat.lt_of_lt_of_le hG3 hSW.size; have q1 := Nat.lt_of_lt_of_le hf3 hSW.size; have q2 := Nat.lt_of_lt_of_le hFW hSW.size; go_simp; (try with_reducible rfl)
    try simp only [Act.put, bP, bQ, bT]
    refine rg_take 2 (some 70) (v := ?v3) rfl rfl (by kernel_rfl) (by kernel_rfl) (by kernel_rfl) (fun _ _ _ h => h) (by rfl) ?hy3 (by assumption) ?_
    case hy3 => intro W hSW; (try dsimp only at hSW); have z0 := carry hSW hf3 f2; have z1 := carry hSW hG3 c4; have z2 := carry hSW hf3 f1; have z3 := carry hSW hFW hF0; have q0 := Nat.lt_of_lt_of_le hG3 hSW.size; have q1 := Nat.lt_of_lt_of_le hf3 hSW.size; have q2 := Nat.lt_of_lt_of_le hFW hSW.size; go_simp; (try with_reducible rfl)
    try simp only [Act.put, bP, bQ, bT]
    refine rg_take 3 (some 71) (v := ?v4) rfl rfl (by kernel_rfl) (by kernel_rfl) (by kernel_rfl) (fun _ _ _ h => h) (by rfl) ?hy4 (by assumption) ?_
    case hy4 => intro W hSW; (try dsimp only at hSW); have z0 := carry hSW hf3 f2; have z1 := carry hSW hG3 c4; have z2 := carry hSW hf3 f1; have z3 := carry hSW hFW hF0; have q0 := Nat.lt_of_lt_of_le hG3 hSW.size; have q1 := Nat.lt_of_lt_of_le hf3 hSW.size; have q2 := Nat.lt_of_lt_of_le hFW hSW.size; go_simp; (try with_reducible rfl)
    try simp only [Act.put, bP, bQ, bT]
    refine rg_take 4 (some 72) (v := ?v5) rfl rfl (by kernel_rfl) (by kernel_rfl) (by kernel_rfl) (fun _ _ _ h => h) (by rfl) ?hy5 (by assumption) ?_
    case hy5 => intro W hSW; (try dsimp only at hSW); have z0 := carry hSW hf3 f2; have z1 := carry hSW hG3 c4; have z2 := carry hSW hf3 f1; have z3 := carry hSW hFW hF0; have q0 := Nat.lt_of_lt_of_le hG3 hSW.size; have q1 := Nat.lt_of_lt_of_le hf3 hSW.size; have q2 := Nat.lt_of_lt_of_le hFW hSW.size; go_simp; (try with_reducible rfl)
    try simp only [Act.put, bP, bQ, bT]
    refine rg_take 5 (some 73) (v := ?v6) rfl rfl (by kernel_rfl) (by kernel_rfl) (by kernel_rfl) (fun _ _ _ h => h) (by rfl) ?hy6 (by assumption) ?_
    case hy6 => intro W hSW; (try dsimp only at hSW); have z0 := carry hSW hf3 f2; have z1 := carry hSW hG3 c4; have z2 := carry hSW hf3 f1; have z3 := carry hSW hFW hF0; have q0 := Nat.lt_of_lt_of_le hG3 hSW.size; have q1 := Nat.lt_of_lt_of_le hf3 hSW.size; have q2 := Nat.lt_of_lt_of_le hFW hSW.size; go_simp; (try with_reducible rfl)
    try simp only [Act.put, bP, bQ, bT]
    refine rg_take 6 (some 74) (v := ?v7) rfl rfl (by kernel_rfl) (by kernel_rfl) (by kernel_rfl) (fun _ _ _ h => h) (by rfl) ?hy7 (by assumption) ?_
    case hy7 => intro W hSW; (try dsimp only at hSW); have z0 := carry hSW hf3 f2; have z1 := carry hSW hG3 c4; have z2 := carry hSW hf3 f1; have z3 := carry hSW hFW hF0; have q0 := Nat.lt_of_lt_of_le hG3 hSW.size; have q1 := Nat.lt_of_lt_of_le hf3 hSW.size; have q2 := Nat.lt_of_lt_of_le hFW hSW.size; go_simp; (try with_reducible rfl)
    try simp only [Act.put, bP, bQ, bT]
    refine rg_take 7 (some 75) (v := ?v8) rfl rfl (by kernel_rfl) (by kernel_rfl) (by kernel_rfl) (fun _ _ _ h => h) (by rfl) ?hy8 (by assumption) ?_
    case hy8 => intro W hSW; (try dsimp only at hSW); have z0 := carry hSW hf3 f2; have z1 := carry hSW hG3 c4; have z2 := carry hSW hf3 f1; have z3 := carry hSW hFW hF0; have q0 := Nat.lt_of_lt_of_le hG3 hSW.size; have q1 := Nat.lt_of_lt_of_le hf3 hSW.size; have q2 := Nat.lt_of_lt_of_le hFW hSW.size; go_simp; (try with_reducible rfl)
    try simp only [Act.put, bP, bQ, bT]
    refine rg_take 8 (some 76) (v := ?v9) rfl rfl (by kernel_rfl) (by kernel_rfl) (by kernel_rfl) (fun _ _ _ h => h) (by rfl) ?hy9 (by assumption) ?_
    case hy9 => intro W hSW; (try dsimp only at hSW); have z0 := carry hSW hf3 f2; have z1 := carry hSW hG3 c4; have z2 := carry hSW hf3 f1; have z3 := carry hSW hFW hF0; have q0 := Nat.lt_of_lt_of_le hG3 hSW.size; have q1 := Nat.lt_of_lt_of_le hf3 hSW.size; have q2 := Nat.lt_of_lt_of_le hFW hSW.size; go_simp; (try with_reducible rfl)
    try simp only [Act.put, bP, bQ, bT]
    refine rg_take 9 (some 77) (v := ?v10) rfl rfl (by kernel_rfl) (by kernel_rfl) (by kernel_rfl) (fun _ _ _ h => h) (by rfl) ?hy10 (by assumption) ?_
    case hy10 => intro W hSW; (try dsimp only at hSW); have z0 := carry hSW hf3 f2; have z1 := carry hSW hG3 c4; have z2 := carry hSW hf3 f1; have z3 := carry hSW hFW hF0; have q0 := Nat.lt_of_lt_of_le hG3 hSW.size; have q1 := Nat.lt_of_lt_of_le hf3 hSW.size; have q2 := Nat.lt_of_lt_of_le hFW hSW.size; go_simp; (try with_reducible rfl)
    try simp only [Act.put, bP, bQ, bT]
    refine rg_twoF 10 14 rfl rfl (by kernel_rfl) (by rfl) (by rfl) (fun K hK => ?callf) (fun K hK => ?allocf)
    case callf =>
     go_simp
     refine (hat.out _ (belT hb30.out ((Below.refl _ _).drew))).mono ?_
     rintro e9 w9 ⟨rfl, hb9⟩
     have hb99 : Below W3.heap.size W3 w9 := belT ((Below.refl _ _).drew) hb9
     refine hK.out _ _ hb99 (fun hH1 => ?_)
     clear hK K
     try simp only [Act.put, bP, bQ, bT]
     refine rg_take 11 (some 67) (v := ?v11) rfl rfl (by kernel_rfl) (by kernel_rfl) (by kernel_rfl) (fun _ _ _ h => h) (by rfl) ?hy11 (by assumption) ?_
     case hy11 => intro W hSW; (try dsimp only at hSW); go_simp; (try with_reducible rfl)
     try simp only [Act.put, bP, bQ, bT]
     refine rg_take 12 (some 79) (v := ?v12) rfl rfl (by kernel_rfl) (by kernel_rfl) (by kernel_rfl) (fun _ _ _ h => h) (by rfl) ?hy12 (by assumption) ?_
     case hy12 => intro W hSW; (try dsimp only at hSW); go_simp; (try with_reducible rfl)
     try simp only [Act.put, bP, bQ, bT]
     refine rg_take 13 (some 80) (v := ?v13) rfl rfl (by kernel_rfl) (by kernel_rfl) (by kernel_rfl) (fun _ _ _ h => h) (by rfl) ?hy13 (by assumption) ?_
     case hy13 => intro W hSW; (try dsimp only at hSW); go_simp; (try with_reducible rfl)
     try simp only [Act.put, bP, bQ, bT]
     refine rg_one 14 rfl (by kernel_rfl) (by rfl) (fun K hK => ?_)
     go_simp
     refine hK.out _ _ (hH1.trans (show Below W3.heap.size w9 _ from by have := hH1.size; (repeat' (first | (with_reducible first | exact bR _ _ | assumption | apply bS | apply bA | apply bD | apply bN | exact bL _) | (simp; done) | (simp; omega) | omega | exact bL _)))) (fun hH14 => ?_)
     clear hK K
     try simp only [Act.put, bP, bQ, bT]
     refine rg_one 15 rfl (by kernel_rfl) (by rfl) (fun K hK => ?_)
     go_simp
     refine hK.out _ _ (hH1.trans (show Below W3.heap.size w9 _ from by have := hH1.size; (repeat' (first | (with_reducible first | exact bR _ _ | assumption | apply bS | apply bA | apply bD | apply bN | exact bL _) | (simp; done) | (simp; omega) | omega | exact bL _)))) (fun hH15 => ?_)
     clear hK K
     try simp only [Act.put, bP, bQ, bT]
     refine rg_take 16 (some 8) (v := ?v14) rfl rfl (by kernel_rfl) (by kernel_rfl) (by kernel_rfl) (fun _ _ _ h => h) (by rfl) ?hy14 (by assumption) ?_
     case hy14 => intro W hSW; (try dsimp only at hSW); go_simp; (try with_reducible rfl)
     try simp only [Act.put, bP, bQ, bT]
     refine wpAnyH_done (by kernel_rfl) ?_ _
     go_wp2_with fail
     go_meet
     exact ⟨w9.heap.size, rfl, rfl, ⟨by simp [go_sem], by simp [go_sem], by simp [go_sem], by simp [go_sem], by simp [go_sem]⟩, hH1.size, by simp, hH15⟩
    case allocf =>
     go_simp
     refine hK.out _ _ (belA _ ((Below.refl _ _).drew)) (fun hH23 => ?_)
     clear hK K
     try simp only [Act.put, bP, bQ, bT]
     refine rg_one 10 rfl (by kernel_rfl) (by rfl) (fun K hK => ?_)
     go_simp
     refine (hat.out _ (belT hb30.out (belA _ ((Below.refl _ _).drew)))).mono ?_
     rintro e9 w9 ⟨rfl, hb9⟩
     obtain ⟨⟨x0, x1, x2, x3, x4⟩, xf, hb5, xl⟩ := bx5 (W := W3.drew) (g := W3.heap.size) rfl ((Below.refl _ _).drew) hb9
     have hb99 : Below W3.heap.size W3 w9 := hb5
     refine hK.out _ _ hb99 (fun hH1 => ?_)
     clear hK K hb9
     try simp only [Act.put, bP, bQ, bT]
     refine rg_take 11 (some 67) (v := ?v15) rfl rfl (by kernel_rfl) (by kernel_rfl) (by kernel_rfl) (fun _ _ _ h => h) (by rfl) ?hy15 (by assumption) ?_
     case hy15 => intro W hSW; (try dsimp only at hSW); go_simp; (try with_reducible rfl)
     try simp only [Act.put, bP, bQ, bT]
     refine rg_take 12 (some 79) (v := ?v16) rfl rfl (by kernel_rfl) (by kernel_rfl) (by kernel_rfl) (fun _ _ _ h => h) (by rfl) ?hy16 (by assumption) ?_
     case hy16 => intro W hSW; (try dsimp only at hSW); go_simp; (try with_reducible rfl)
     try simp only [Act.put, bP, bQ, bT]
     refine rg_take 13 (some 80) (v := ?v17) rfl rfl (by kernel_rfl) (by kernel_rfl) (by kernel_rfl) (fun _ _ _ h => h) (by rfl) ?hy17 (by assumption) ?_
     case hy17 => intro W hSW; (try dsimp only at hSW); go_simp; (try with_reducible rfl)
     try simp only [Act.put, bP, bQ, bT]
     refine rg_one 15 rfl (by kernel_rfl) (by rfl) (fun K hK => ?_)
     have xf0 := xf 0; have xf1 := xf 1; have xf2 := xf 2; have xf3 := xf 3; have xf4 := xf 4
     go_simp
     refine hK.out _ _ (hH1.trans (show Below W3.heap.size w9 _ from by have := hH1.size; (repeat' (first | (with_reducible first | exact bR _ _ | assumption | apply bS | apply bA | apply bD | apply bN | exact bL _) | (simp; done) | (simp; omega) | omega | exact bL _)))) (fun hH24 => ?_)
     clear hK K
     try simp only [Act.put, bP, bQ, bT]
     refine rg_take 16 (some 8) (v := ?v18) rfl rfl (by kernel_rfl) (by kernel_rfl) (by kernel_rfl) (fun _ _ _ h => h) (by rfl) ?hy18 (by assumption) ?_
     case hy18 => intro W hSW; (try dsimp only at hSW); go_simp; (try with_reducible rfl)
     try simp only [Act.put, bP, bQ, bT]
     refine wpAnyH_done (by kernel_rfl) ?_ _
     go_wp2_with fail
     go_meet
     exact ⟨W3.heap.size, rfl, rfl, ⟨by simp [go_sem, x0, x1, x2, x3, x4], by simp [go_sem, x0, x1, x2, x3, x4], by simp [go_sem, x0, x1, x2, x3, x4], by simp [go_sem, x0, x1, x2, x3, x4], by simp [go_sem, x0, x1, x2, x3, x4]⟩, Nat.le_refl _, by simp; exact xl, hH24⟩
 case rest =>
  rename World => W2
  obtain ⟨gw, rfl, rfl, ⟨d0, d1, d2, d3, d4⟩, hge, hgl, hb2⟩ := ‹∃ gw, _›
  have hwo := Lib.hid (show ThO W2 gw 0 ⟨s0, s1, s2, s3, s4⟩ from ⟨d0, d1, d2, d3, d4⟩)
  have hB2 := Lib.hid (belT hb30.out hb2)
  have v0 : W2.cell? _ = _ := carry hb2 hv3 v0
  have v1 : W2.cell? _ = _ := carry hb2 hv3 v1
  have v2 : W2.cell? _ = _ := carry hb2 hv3 v2
  have v3 : W2.cell? _ = _ := carry hb2 hv3 v3
  have v4 : W2.cell? _ = _ := carry hb2 hv3 v4
  have hv2 : w.heap.size + 1 < W2.heap.size := Nat.lt_of_lt_of_le hv3 hb2.size
  have hG2 : G < W2.heap.size := Nat.lt_of_lt_of_le hG3 hb2.size
  have hgw0 : w.heap.size ≤ gw := by have := hb30.out.size; omega
  have hge := Lib.hid hge
  clear hb2 hb30 c4 f1 f2 hF0 hFW hat hG3 hf3 hv3 hl3 hi0 hi1 hFw hG d0 d1 d2 d3 d4 hnT
  rcases hra.out with ⟨ha, hb⟩ | ⟨who, t, ha, hb, hvr⟩
  ·obtain rfl := hRno.out ha
   obtain rfl := hvn.out hb
   clear ha hb hvn hvs hra hRno hRat
   go_wp2_with (refine (hst.out _ hB2.out).mono ?_; rintro e1 w1 ⟨rfl, hf⟩)
   all_goals go_end0
   all_goals exact ⟨rfl, hf⟩
  ·obtain rfl := hRat.out who ha
   obtain ⟨rfl, rfl⟩ := hvs.out t hb
   have hvr := Lib.hid (hvr.below hB2.out)
   clear ha hb hvn hvs hra hRno hRat
   go_wp2_with (refine (through_any _ ⟨6, n, none, d, e⟩ ⟨4, 0, none, e, some ⟨gw, 0, none⟩⟩).mono ?_; rintro e1 w1 ⟨b, rfl, hb, hbl, hth, hbw⟩; have hB := Lib.hid (belT hB2.out hbw); have hr := Lib.hid (hres.out w1 b gw who _ hB.out (by have := hB2.out.size; omega) hbl hth hgw0 (Nat.lt_of_lt_of_le hgl hbw.size) (hwo.out.bar (Bar.of_below (S := fun _ => False) hbw) id) (hvr.out.below hbw)); clear hb hbl hth hbw)
   refine (hgv.out _ ⟨6, n, none, d, some ⟨b, 0, none⟩⟩ _ hB.out hr.out).mono ?_
   rintro e2 w2 ⟨rfl, hf, _, _⟩
   go_wp2_with fail
   all_goals go_end0
   all_goals exact ⟨rfl, hf⟩
theorem handle_no (B G : Nat) (tv fv sv : Value) (c : Mc) (l : List Fr) (ts : List Tg) (fur : List Int) (w : World) (stk : List RF) (f : RF) (x : Fr) (v : RV) (t : Th) (h : Hid (Wk B G tv fv sv c l ts stk f x v t w)) (hF : Hid (FvR B G w fv fur)) (hfl : fur.length = ts.length)
  (hfb : -1 ≤ fur.getD f.node.toNat 0 ∧ fur.getD f.node.toNat 0 ≤ 1000000000) (hel : f.env.list.length ≤ 900000000) (h56 : t.a ≠ 5 ∧ t.a ≠ 6) (he : ∀ T fur stk e, rCase T fur stk e v = .en 5 0) :
  Calls Try.prog 84 #[.pointer (some ⟨G, 0, none⟩), x.val, t.val] w (NsP c.w0 B G tv fv (rCase (ndT ts f.node) (fur.getD f.node.toNat 0) stk f.env v)) := by
 have hst := Lib.hid h.out.stuck
 have hen := Lib.hid trivial
 have henv := Lib.hid trivial
 rw [he]
 obtain ⟨T, off, cp, i, rfl, hTw, hG, c3, hi, hfi, hxi, hT, hfz⟩ := h.out.open
 have hnT : ¬ Bq G T := h.out.mr_T
 obtain ⟨n, hn⟩ : ∃ n, ndT ts f.node = n := ⟨_, rfl⟩
 rw [hn] at hT
 obtain ⟨xst, xnd, xen, ⟨y0, y1, y2, y3, y4⟩⟩ := x
 obtain ⟨xk, xa, xb, xc, xn, xx, xy, xz, xw⟩ := n
 obtain ⟨t0, t1, t2, t3, t4, t5, t6, t7, t8⟩ := hT
 dsimp only at hxi hen henv t0 t1 t2 t3 t4 t5 t6 t7 t8
 subst hxi
 obtain ⟨z0, z1, z2, z3, z4⟩ := t
 obtain ⟨hz5, hz6⟩ := h56
 dsimp only at hz5 hz6
 unfold Fr.val Th.val
 dsimp only
 clear h hF hfb hfz
 go_enter Try.func84, Try.ntmps84
 go_wp2_with fail
 obtain ⟨W0, hW0⟩ : ∃ W, (w.alloc (.cells #[.int .i64 xst, .int .i64 i, .pointer xen, .int .i64 y0, .int .i64 y1, .pointer y2, .pointer y3, .pointer y4] 129)).alloc (.cells #[.int .i64 z0, .int .i64 z1, .pointer z2, .pointer z3, .pointer z4] 56) = W := ⟨_, rfl⟩
 rw [hW0]
 obtain ⟨hb0, hs0, ⟨f0, f1, f2, f3, f4, f5, f6, f7⟩, ⟨v0, v1, v2, v3, v4⟩⟩ := bx_fv hW0
 have c3 : W0.cell? _ = _ := carry hb0 hG c3
 have t0 : W0.cell? _ = _ := carry hb0 hTw t0
 have t1 : W0.cell? _ = _ := carry hb0 hTw t1
 have t2 : W0.cell? _ = _ := carry hb0 hTw t2
 have t3 : W0.cell? _ = _ := carry hb0 hTw t3
 have t4 : W0.cell? _ = _ := carry hb0 hTw t4
 have t5 : W0.cell? _ = _ := carry hb0 hTw t5
 have t6 : W0.cell? _ = _ := carry hb0 hTw t6
 have t7 : W0.cell? _ = _ := carry hb0 hTw t7
 have t8 : W0.cell? _ = _ := carry hb0 hTw t8
 have hG0 : G < W0.heap.size := Nat.lt_of_lt_of_le hG hb0.size
 have hT0 : T < W0.heap.size := Nat.lt_of_lt_of_le hTw hb0.size
 have hl0 : w.heap.size < W0.heap.size := by omega
 have hl1 : w.heap.size + 1 < W0.heap.size := by omega
 have hb0 := Lib.hid hb0
 clear hW0 hs0
 go_region
 go_wp2_with fail
 refine (hst.out _ (belT hb0.out (by (repeat' (first | (with_reducible first | exact bR _ _ | assumption | apply bS | apply bA | apply bD | apply bN | exact bL _) | (simp; done) | (simp; omega) | omega | exact bL _))))).mono ?_
 rintro e1 w1 ⟨rfl, hf⟩
 go_wp2_with fail
 all_goals go_end0
 all_goals exact ⟨rfl, hf⟩
theorem handle_any (B G : Nat) (tv fv sv : Value) (c : Mc) (l : List Fr) (ts : List Tg) (fur : List Int) (w : World) (stk : List RF) (f : RF) (x : Fr) (v : RV) (t : Th) (h : Hid (Wk B G tv fv sv c l ts stk f x v t w)) (hF : Hid (FvR B G w fv fur)) (hfl : fur.length = ts.length)
  (hfb : -1 ≤ fur.getD f.node.toNat 0 ∧ fur.getD f.node.toNat 0 ≤ 1000000000) (hel : f.env.list.length ≤ 900000000) :
  Calls Try.prog 84 #[.pointer (some ⟨G, 0, none⟩), x.val, t.val] w (NsP c.w0 B G tv fv (rCase (ndT ts f.node) (fur.getD f.node.toNat 0) stk f.env v)) := by
 rcases rr_ret h.out.vl with ⟨u, d, tu, hv, ht, ⟨g, oo, rfl, hgw, hgn, hth⟩, hru⟩ | ⟨n, u, k, d, e, tu, te, hv, ht, hbu, hru, hbe, hrg⟩ | ⟨h56, _, he⟩
 ·exact handle_ret B G tv fv sv c l ts fur w stk f x v t h hF hfl hfb hel u g oo tu hv ht hgw hgn hth hru
 ·by_cases hnn : n = (ndT ts f.node).n
  ·obtain ⟨g, oo, rfl, hgw, hgn, hth⟩ := hbu
   obtain ⟨g2, o2, rfl, hgw2, hgn2, hth2⟩ := hbe
   exact handle_own B G tv fv sv c l ts fur w stk f x v t h hF hfl hfb hel n u k g oo g2 o2 tu te hv ht hgw hgn hth hru hgw2 hgn2 hth2 hrg hnn
  ·exact handle_fwd B G tv fv sv c l ts fur w stk f x v t h hF hfl hfb hel n u k d e tu te hv ht hbu hru hbe hrg hnn
 ·exact handle_no B G tv fv sv c l ts fur w stk f x v t h hF hfl hfb hel h56 he
open Go.RowKit
theorem rr_num {A : Nat → Prop} {W : World} {v : RV} {t : Th} (h : RR A W v (.inl t)) : (t.a = 0 ∧ v = .num t.b) ∨ (t.a ≠ 0 ∧ ∀ n, v ≠ .num n) := by
 cases v with
 | num n => cases h; exact .inl ⟨rfl, rfl⟩
 | tru n => cases h; exact .inr ⟨by show (1 : Int) ≠ 0; decide, fun _ h => by cases h⟩
 | fn n e => obtain ⟨c, l, h, _⟩ := h; cases h; exact .inr ⟨by show (2 : Int) ≠ 0; decide, fun _ h => by cases h⟩
 | bnd n e f => obtain ⟨c, l, d, u, h, _⟩ := h; cases h; exact .inr ⟨by show (3 : Int) ≠ 0; decide, fun _ h => by cases h⟩
 | fwd f g => obtain ⟨d, u, e, x, h, _⟩ := h; cases h; exact .inr ⟨by show (4 : Int) ≠ 0; decide, fun _ h => by cases h⟩
 | ret u => obtain ⟨d, x, h, _⟩ := h; cases h; exact .inr ⟨by show (5 : Int) ≠ 0; decide, fun _ h => by cases h⟩
 | op n u f => obtain ⟨d, u, e, x, h, _⟩ := h; cases h; exact .inr ⟨by show (6 : Int) ≠ 0; decide, fun _ h => by cases h⟩
 | nil => cases h
 | cons u r => obtain ⟨u, l, h, _⟩ := h; cases h
theorem rPrim_no1 {p : Int} {stk : List RF} {u v : RV} (h : ∀ n, u ≠ .num n) : rPrim p stk u v = .en 5 0 := by
 cases u with
 | num n => exact absurd rfl (h n)
 | _ => rfl
theorem rPrim_no2 {p : Int} {stk : List RF} {u v : RV} (h : ∀ n, v ≠ .num n) : rPrim p stk u v = .en 5 0 := by
 cases v with
 | num n => exact absurd rfl (h n)
 | _ => cases u <;> rfl
theorem rPrim_yes {p a b : Int} {stk : List RF} : rPrim p stk (.num a) (.num b) = if (prmV p a b).1 = 0 then .gv stk (.num (prmV p a b).2) else if (prmV p a b).1 = 1 then .gv stk (.tru (prmV p a b).2) else .en (prmV p a b).1 (prmV p a b).2 := rfl
theorem rSecond_op {t : Tg} {f : RF} {v : RV} {stk : List RF} (h : t.k = 10) : rSecond t f v stk = .gv stk (.op t.n f.val v) := by unfold rSecond; rw [if_pos h]
theorem rSecond_prim {t : Tg} {f : RF} {v : RV} {stk : List RF} (h : t.k ≠ 10) : rSecond t f v stk = rPrim t.n stk f.val v := by unfold rSecond; rw [if_neg h]
theorem Wk.end_ {B G : Nat} {tv fv sv : Value} {c : Mc} {l : List Fr} {ts : List Tg} {stk : List RF} {f : RF} {x : Fr} {v : RV} {t : Th} {w : World} (h : Wk B G tv fv sv c l ts stk f x v t w) (k n : Int) :
  ∀ W, Below w.heap.size w W → Calls Try.prog 86 #[.pointer (some ⟨G, 0, none⟩), .agg #[.int .i64 k, .int .i64 n]] W fun e w' => e = .returned (.tuple #[]) ∧ MR c.w0 B G tv fv (.en k n) w' := fun W hb => by
 refine (end_any W G tv fv sv c k n (Lib.hid (h.below hb).mr.mc)).mono ?_
 rintro e w1 ⟨rfl, h1, h2⟩
 exact ⟨rfl, mr_en (h.below hb).mr h1 h2⟩
theorem second_op (B G : Nat) (tv fv sv : Value) (c : Mc) (l : List Fr) (ts : List Tg) (w : World) (stk : List RF) (f : RF) (x : Fr) (v : RV) (t : Th) (h : Hid (Wk B G tv fv sv c l ts stk f x v t w)) (hk : (ndT ts f.node).k = 10) :
  Calls Try.prog 75 #[.pointer (some ⟨G, 0, none⟩), x.val, t.val] w (NsP c.w0 B G tv fv (rSecond (ndT ts f.node) f v stk)) := by
 have hst := Lib.hid h.out.stuck
 have hgv := Lib.hid fun u y W hb he => h.out.give (u := u) y W hb he
 have hnd := Lib.hid fun k n W hb => h.out.end_ k n W hb
 have hbx := Lib.hid fun (W : World) (b o : Nat) (t : Th) h1 h2 h3 => h.out.mr.bx (w' := W) (b := b) (o := o) (t := t) h1 h2 h3
 have hvl := Lib.hid fun W hb => (h.out.below (w' := W) hb).vl
 have hfl := Lib.hid fun W hb => (h.out.below (w' := W) hb).fr.2.2.2
 rw [rSecond_op hk]
 obtain ⟨T, off, cp, i, rfl, hTw, hG, c3, hi, hfi, hxi, hT, hfz⟩ := h.out.open
 have hnT : ¬ Bq G T := h.out.mr_T
 obtain ⟨n, hn⟩ : ∃ n, ndT ts f.node = n := ⟨_, rfl⟩
 rw [hn] at hT hk ⊢
 obtain ⟨xst, xnd, xen, ⟨y0, y1, y2, y3, y4⟩⟩ := x
 obtain ⟨xk, xa, xb, xc, xn, xx, xy, xz, xw⟩ := n
 obtain ⟨t0, t1, t2, t3, t4, t5, t6, t7, t8⟩ := hT
 dsimp only at hxi t0 t1 t2 t3 t4 t5 t6 t7 t8
 subst hxi
 obtain ⟨z0, z1, z2, z3, z4⟩ := t
 dsimp only at hk hfl
 subst hk
 unfold Fr.val Th.val
 dsimp only
 have hres := Lib.hid fun (W : World) (b g : Nat) (hb : Below w.heap.size w W) (h1 : w.heap.size ≤ b) (h2 : b < W.heap.size) (h3 : ThO W b 3 ⟨y0, y1, y2, y3, y4⟩) (h4 : w.heap.size ≤ g) (h5 : g < W.heap.size) (h6 : ThO W g 0 ⟨z0, z1, z2, z3, z4⟩) =>
  (⟨some ⟨b, 3, none⟩, _, some ⟨g, 0, none⟩, _, rfl, hbx.out W b 3 _ h1 h2 h3, hfl.out W hb, hbx.out W g 0 _ h4 h5 h6, hvl.out W hb⟩ : RR (Bp G sv) W (.op xn f.val v) (.inl ⟨6, xn, none, some ⟨b, 3, none⟩, some ⟨g, 0, none⟩⟩))
 clear h hst hnd hbx hfz
 go_enter Try.func75, Try.ntmps75
 go_wp2_with fail
 obtain ⟨W0, hW0⟩ : ∃ W, (w.alloc (.cells #[.int .i64 xst, .int .i64 i, .pointer xen, .int .i64 y0, .int .i64 y1, .pointer y2, .pointer y3, .pointer y4] 129)).alloc (.cells #[.int .i64 z0, .int .i64 z1, .pointer z2, .pointer z3, .pointer z4] 56) = W := ⟨_, rfl⟩
 rw [hW0]
 obtain ⟨hb0, hs0, ⟨f0, f1, f2, f3, f4, f5, f6, f7⟩, ⟨v0, v1, v2, v3, v4⟩⟩ := bx_fv hW0
 have c3 : W0.cell? _ = _ := carry hb0 hG c3
 have t0 : W0.cell? _ = _ := carry hb0 hTw t0
 have t1 : W0.cell? _ = _ := carry hb0 hTw t1
 have t2 : W0.cell? _ = _ := carry hb0 hTw t2
 have t3 : W0.cell? _ = _ := carry hb0 hTw t3
 have t4 : W0.cell? _ = _ := carry hb0 hTw t4
 have t5 : W0.cell? _ = _ := carry hb0 hTw t5
 have t6 : W0.cell? _ = _ := carry hb0 hTw t6
 have t7 : W0.cell? _ = _ := carry hb0 hTw t7
 have t8 : W0.cell? _ = _ := carry hb0 hTw t8
 have hG0 : G < W0.heap.size := Nat.lt_of_lt_of_le hG hb0.size
 have hT0 : T < W0.heap.size := Nat.lt_of_lt_of_le hTw hb0.size
 have hl0 : w.heap.size < W0.heap.size := by omega
 have hl1 : w.heap.size + 1 < W0.heap.size := by omega
 have hb0 := Lib.hid hb0
 clear hW0 hs0
 go_region
 go_wp2_with fail
 obtain ⟨W3, hW3, hb3⟩ : ∃ W, W = (W0.alloc (.cells #[.int .i64 10, .int .i64 xa, .int .i64 xb, .int .i64 xc, .int .i64 xn, .int .i64 xx, .int .i64 xy, .int .i64 xz, .int .i64 xw] 37)).drew ∧ Below W0.heap.size W0 W := ⟨_, rfl, by (repeat' (first | (with_reducible first | exact bR _ _ | assumption | apply bS | apply bA | apply bD | apply bN | exact bL _) | (simp; done) | (simp; omega) | omega | exact bL _))⟩
 rw [← hW3]
 have hB := Lib.hid (belT hb0.out hb3)
 have hr := Lib.hid (hres.out W3 w.heap.size (w.heap.size + 1) hB.out (Nat.le_refl _) (Nat.lt_of_lt_of_le hl0 hb3.size) ⟨carry hb3 hl0 f3, carry hb3 hl0 f4, carry hb3 hl0 f5, carry hb3 hl0 f6, carry hb3 hl0 f7⟩ (Nat.le_succ _) (Nat.lt_of_lt_of_le hl1 hb3.size) ⟨carry hb3 hl1 v0, carry hb3 hl1 v1, carry hb3 hl1 v2, carry hb3 hl1 v3, carry hb3 hl1 v4⟩)
 clear hW3 hb3
 refine (hgv.out (.op xn f.val v) ⟨6, xn, none, some ⟨w.heap.size, 3, none⟩, some ⟨w.heap.size + 1, 0, none⟩⟩ _ hB.out hr.out).mono ?_
 rintro e1 w1 ⟨rfl, hf, _, _⟩
 go_wp2_with fail
 all_goals go_end0
 all_goals exact ⟨rfl, hf⟩
theorem second_no1 (B G : Nat) (tv fv sv : Value) (c : Mc) (l : List Fr) (ts : List Tg) (w : World) (stk : List RF) (f : RF) (x : Fr) (v : RV) (t : Th) (h : Hid (Wk B G tv fv sv c l ts stk f x v t w)) (hk : (ndT ts f.node).k ≠ 10) (h1 : x.th.a ≠ 0) (h2 : ∀ n, f.val ≠ .num n) :
  Calls Try.prog 75 #[.pointer (some ⟨G, 0, none⟩), x.val, t.val] w (NsP c.w0 B G tv fv (rSecond (ndT ts f.node) f v stk)) := by
 have hst := Lib.hid h.out.stuck
 have hgv := Lib.hid fun u y W hb he => h.out.give (u := u) y W hb he
 have hnd := Lib.hid fun k n W hb => h.out.end_ k n W hb
 have hbx := Lib.hid fun (W : World) (b o : Nat) (t : Th) h1 h2 h3 => h.out.mr.bx (w' := W) (b := b) (o := o) (t := t) h1 h2 h3
 rw [rSecond_prim hk, rPrim_no1 h2]
 obtain ⟨T, off, cp, i, rfl, hTw, hG, c3, hi, hfi, hxi, hT, hfz⟩ := h.out.open
 have hnT : ¬ Bq G T := h.out.mr_T
 obtain ⟨n, hn⟩ : ∃ n, ndT ts f.node = n := ⟨_, rfl⟩
 rw [hn] at hT hk
 obtain ⟨xst, xnd, xen, ⟨y0, y1, y2, y3, y4⟩⟩ := x
 obtain ⟨xk, xa, xb, xc, xn, xx, xy, xz, xw⟩ := n
 obtain ⟨t0, t1, t2, t3, t4, t5, t6, t7, t8⟩ := hT
 dsimp only at hxi t0 t1 t2 t3 t4 t5 t6 t7 t8
 subst hxi
 obtain ⟨z0, z1, z2, z3, z4⟩ := t
 dsimp only at hk h1
 unfold Fr.val Th.val
 dsimp only
 clear h hgv hnd hbx hfz h2
 go_enter Try.func75, Try.ntmps75
 go_wp2_with fail
 obtain ⟨W0, hW0⟩ : ∃ W, (w.alloc (.cells #[.int .i64 xst, .int .i64 i, .pointer xen, .int .i64 y0, .int .i64 y1, .pointer y2, .pointer y3, .pointer y4] 129)).alloc (.cells #[.int .i64 z0, .int .i64 z1, .pointer z2, .pointer z3, .pointer z4] 56) = W := ⟨_, rfl⟩
 rw [hW0]
 obtain ⟨hb0, hs0, ⟨f0, f1, f2, f3, f4, f5, f6, f7⟩, ⟨v0, v1, v2, v3, v4⟩⟩ := bx_fv hW0
 have c3 : W0.cell? _ = _ := carry hb0 hG c3
 have t0 : W0.cell? _ = _ := carry hb0 hTw t0
 have t1 : W0.cell? _ = _ := carry hb0 hTw t1
 have t2 : W0.cell? _ = _ := carry hb0 hTw t2
 have t3 : W0.cell? _ = _ := carry hb0 hTw t3
 have t4 : W0.cell? _ = _ := carry hb0 hTw t4
 have t5 : W0.cell? _ = _ := carry hb0 hTw t5
 have t6 : W0.cell? _ = _ := carry hb0 hTw t6
 have t7 : W0.cell? _ = _ := carry hb0 hTw t7
 have t8 : W0.cell? _ = _ := carry hb0 hTw t8
 have hG0 : G < W0.heap.size := Nat.lt_of_lt_of_le hG hb0.size
 have hT0 : T < W0.heap.size := Nat.lt_of_lt_of_le hTw hb0.size
 have hl0 : w.heap.size < W0.heap.size := by omega
 have hl1 : w.heap.size + 1 < W0.heap.size := by omega
 have hb0 := Lib.hid hb0
 clear hW0 hs0
 go_region
 go_wp2_with fail
 refine (hst.out _ (belT hb0.out (by (repeat' (first | (with_reducible first | exact bR _ _ | assumption | apply bS | apply bA | apply bD | apply bN | exact bL _) | (simp; done) | (simp; omega) | omega | exact bL _))))).mono ?_
 rintro e1 w1 ⟨rfl, hf⟩
 go_wp2_with fail
 all_goals go_end0
 all_goals exact ⟨rfl, hf⟩
theorem second_no2 (B G : Nat) (tv fv sv : Value) (c : Mc) (l : List Fr) (ts : List Tg) (w : World) (stk : List RF) (f : RF) (x : Fr) (v : RV) (t : Th) (h : Hid (Wk B G tv fv sv c l ts stk f x v t w)) (hk : (ndT ts f.node).k ≠ 10) (h0 : x.th.a = 0) (h1 : t.a ≠ 0) (h2 : ∀ n, v ≠ .num n) :
  Calls Try.prog 75 #[.pointer (some ⟨G, 0, none⟩), x.val, t.val] w (NsP c.w0 B G tv fv (rSecond (ndT ts f.node) f v stk)) := by
 have hst := Lib.hid h.out.stuck
 have hgv := Lib.hid fun u y W hb he => h.out.give (u := u) y W hb he
 have hnd := Lib.hid fun k n W hb => h.out.end_ k n W hb
 have hbx := Lib.hid fun (W : World) (b o : Nat) (t : Th) h1 h2 h3 => h.out.mr.bx (w' := W) (b := b) (o := o) (t := t) h1 h2 h3
 rw [rSecond_prim hk, rPrim_no2 h2]
 obtain ⟨T, off, cp, i, rfl, hTw, hG, c3, hi, hfi, hxi, hT, hfz⟩ := h.out.open
 have hnT : ¬ Bq G T := h.out.mr_T
 obtain ⟨n, hn⟩ : ∃ n, ndT ts f.node = n := ⟨_, rfl⟩
 rw [hn] at hT hk
 obtain ⟨xst, xnd, xen, ⟨y0, y1, y2, y3, y4⟩⟩ := x
 obtain ⟨xk, xa, xb, xc, xn, xx, xy, xz, xw⟩ := n
 obtain ⟨t0, t1, t2, t3, t4, t5, t6, t7, t8⟩ := hT
 dsimp only at hxi t0 t1 t2 t3 t4 t5 t6 t7 t8
 subst hxi
 obtain ⟨z0, z1, z2, z3, z4⟩ := t
 dsimp only at hk h1 h0
 subst h0
 unfold Fr.val Th.val
 dsimp only
 clear h hgv hnd hbx hfz h2
 go_enter Try.func75, Try.ntmps75
 go_wp2_with fail
 obtain ⟨W0, hW0⟩ : ∃ W, (w.alloc (.cells #[.int .i64 xst, .int .i64 i, .pointer xen, .int .i64 0, .int .i64 y1, .pointer y2, .pointer y3, .pointer y4] 129)).alloc (.cells #[.int .i64 z0, .int .i64 z1, .pointer z2, .pointer z3, .pointer z4] 56) = W := ⟨_, rfl⟩
 rw [hW0]
 obtain ⟨hb0, hs0, ⟨f0, f1, f2, f3, f4, f5, f6, f7⟩, ⟨v0, v1, v2, v3, v4⟩⟩ := bx_fv hW0
 have c3 : W0.cell? _ = _ := carry hb0 hG c3
 have t0 : W0.cell? _ = _ := carry hb0 hTw t0
 have t1 : W0.cell? _ = _ := carry hb0 hTw t1
 have t2 : W0.cell? _ = _ := carry hb0 hTw t2
 have t3 : W0.cell? _ = _ := carry hb0 hTw t3
 have t4 : W0.cell? _ = _ := carry hb0 hTw t4
 have t5 : W0.cell? _ = _ := carry hb0 hTw t5
 have t6 : W0.cell? _ = _ := carry hb0 hTw t6
 have t7 : W0.cell? _ = _ := carry hb0 hTw t7
 have t8 : W0.cell? _ = _ := carry hb0 hTw t8
 have hG0 : G < W0.heap.size := Nat.lt_of_lt_of_le hG hb0.size
 have hT0 : T < W0.heap.size := Nat.lt_of_lt_of_le hTw hb0.size
 have hl0 : w.heap.size < W0.heap.size := by omega
 have hl1 : w.heap.size + 1 < W0.heap.size := by omega
 have hb0 := Lib.hid hb0
 clear hW0 hs0
 go_region
 go_wp2_with fail
 refine (hst.out _ (belT hb0.out (by (repeat' (first | (with_reducible first | exact bR _ _ | assumption | apply bS | apply bA | apply bD | apply bN | exact bL _) | (simp; done) | (simp; omega) | omega | exact bL _))))).mono ?_
 rintro e1 w1 ⟨rfl, hf⟩
 go_wp2_with fail
 all_goals go_end0
 all_goals exact ⟨rfl, hf⟩
theorem second_yes (B G : Nat) (tv fv sv : Value) (c : Mc) (l : List Fr) (ts : List Tg) (w : World) (stk : List RF) (f : RF) (x : Fr) (v : RV) (t : Th) (h : Hid (Wk B G tv fv sv c l ts stk f x v t w)) (hk : (ndT ts f.node).k ≠ 10) (hp : 0 ≤ (ndT ts f.node).n ∧ (ndT ts f.node).n ≤ 5) (h0 : x.th.a = 0) (h1 : t.a = 0) (hu : f.val = .num x.th.b) (hv : v = .num t.b) (hub : -1073741824 ≤ x.th.b ∧ x.th.b ≤ 1073741823) (hvb : -1073741824 ≤ t.b ∧ t.b ≤ 1073741823) :
  Calls Try.prog 75 #[.pointer (some ⟨G, 0, none⟩), x.val, t.val] w (NsP c.w0 B G tv fv (rSecond (ndT ts f.node) f v stk)) := by
 have hst := Lib.hid h.out.stuck
 have hgv := Lib.hid fun u y W hb he => h.out.give (u := u) y W hb he
 have hnd := Lib.hid fun k n W hb => h.out.end_ k n W hb
 have hbx := Lib.hid fun (W : World) (b o : Nat) (t : Th) h1 h2 h3 => h.out.mr.bx (w' := W) (b := b) (o := o) (t := t) h1 h2 h3
 rw [rSecond_prim hk, hu, hv, rPrim_yes]
 obtain ⟨T, off, cp, i, rfl, hTw, hG, c3, hi, hfi, hxi, hT, hfz⟩ := h.out.open
 have hnT : ¬ Bq G T := h.out.mr_T
 obtain ⟨n, hn⟩ : ∃ n, ndT ts f.node = n := ⟨_, rfl⟩
 rw [hn] at hT hk hp ⊢
 obtain ⟨xst, xnd, xen, ⟨y0, y1, y2, y3, y4⟩⟩ := x
 obtain ⟨xk, xa, xb, xc, xn, xx, xy, xz, xw⟩ := n
 obtain ⟨t0, t1, t2, t3, t4, t5, t6, t7, t8⟩ := hT
 dsimp only at hxi t0 t1 t2 t3 t4 t5 t6 t7 t8
 subst hxi
 obtain ⟨z0, z1, z2, z3, z4⟩ := t
 dsimp only at hk h1 h0 hp hub hvb ⊢
 subst h0 h1
 unfold Fr.val Th.val
 dsimp only
 have hap := Lib.hid fun W => apply2_any xn y1 z1 W hp hub hvb
 obtain ⟨o1, o2, hoo⟩ : ∃ o1 o2, prmV xn y1 z1 = (o1, o2) := ⟨_, _, rfl⟩
 rw [hoo, show ocV (o1, o2) = .agg #[.int .i64 o1, .int .i64 o2] from rfl] at hap
 rw [hoo]
 dsimp only
 clear h hst hbx hfz hu hv hoo hub hvb hp
 by_cases ho0 : o1 = 0
 ·subst ho0
  rw [if_pos rfl]
  go_enter Try.func75, Try.ntmps75
  go_wp2_with fail
  obtain ⟨W0, hW0⟩ : ∃ W, (w.alloc (.cells #[.int .i64 xst, .int .i64 i, .pointer xen, .int .i64 0, .int .i64 y1, .pointer y2, .pointer y3, .pointer y4] 129)).alloc (.cells #[.int .i64 0, .int .i64 z1, .pointer z2, .pointer z3, .pointer z4] 56) = W := ⟨_, rfl⟩
  rw [hW0]
  obtain ⟨hb0, hs0, ⟨f0, f1, f2, f3, f4, f5, f6, f7⟩, ⟨v0, v1, v2, v3, v4⟩⟩ := bx_fv hW0
  have c3 : W0.cell? _ = _ := carry hb0 hG c3
  have t0 : W0.cell? _ = _ := carry hb0 hTw t0
  have t1 : W0.cell? _ = _ := carry hb0 hTw t1
  have t2 : W0.cell? _ = _ := carry hb0 hTw t2
  have t3 : W0.cell? _ = _ := carry hb0 hTw t3
  have t4 : W0.cell? _ = _ := carry hb0 hTw t4
  have t5 : W0.cell? _ = _ := carry hb0 hTw t5
  have t6 : W0.cell? _ = _ := carry hb0 hTw t6
  have t7 : W0.cell? _ = _ := carry hb0 hTw t7
  have t8 : W0.cell? _ = _ := carry hb0 hTw t8
  have hG0 : G < W0.heap.size := Nat.lt_of_lt_of_le hG hb0.size
  have hT0 : T < W0.heap.size := Nat.lt_of_lt_of_le hTw hb0.size
  have hl0 : w.heap.size < W0.heap.size := by omega
  have hl1 : w.heap.size + 1 < W0.heap.size := by omega
  have hb0 := Lib.hid hb0
  clear hW0 hs0
  go_region
  go_wp2_with fail
  obtain ⟨W3, hW3, hb3⟩ : ∃ W, W = (W0.alloc (.cells #[.int .i64 xk, .int .i64 xa, .int .i64 xb, .int .i64 xc, .int .i64 xn, .int .i64 xx, .int .i64 xy, .int .i64 xz, .int .i64 xw] 37)).drew ∧ Below W0.heap.size W0 W := ⟨_, rfl, by (repeat' (first | (with_reducible first | exact bR _ _ | assumption | apply bS | apply bA | apply bD | apply bN | exact bL _) | (simp; done) | (simp; omega) | omega | exact bL _))⟩
  rw [← hW3]
  refine (hap.out W3).mono ?_
  rintro e1 w1 ⟨rfl, hb1⟩
  have hB := Lib.hid (belT (belT hb0.out hb3) hb1)
  clear hb0 hb3 hW3 hb1 hap
  clear t0 t1 t2 t3 t4 t5 t6 t7 t8 f0 f1 f2 f3 f4 f5 f6 f7 v0 v1 v2 v3 v4 c3
  go_wp2_with fail
  refine (hgv.out (.num o2) ⟨0, o2, none, none, none⟩ _ (belT hB.out (by (repeat' (first | (with_reducible first | exact bR _ _ | assumption | apply bS | apply bA | apply bD | apply bN | exact bL _) | (simp; done) | (simp; omega) | omega | exact bL _)))) rfl).mono ?_
  rintro e2 w2 ⟨rfl, hf, _, _⟩
  go_wp2_with fail
  all_goals go_end0
  all_goals exact ⟨rfl, hf⟩
 ·rw [if_neg ho0]
  by_cases ho1 : o1 = 1
  ·subst ho1
   rw [if_pos rfl]
   go_enter Try.func75, Try.ntmps75
   go_wp2_with fail
   obtain ⟨W0, hW0⟩ : ∃ W, (w.alloc (.cells #[.int .i64 xst, .int .i64 i, .pointer xen, .int .i64 0, .int .i64 y1, .pointer y2, .pointer y3, .pointer y4] 129)).alloc (.cells #[.int .i64 0, .int .i64 z1, .pointer z2, .pointer z3, .pointer z4] 56) = W := ⟨_, rfl⟩
   rw [hW0]
   obtain ⟨hb0, hs0, ⟨f0, f1, f2, f3, f4, f5, f6, f7⟩, ⟨v0, v1, v2, v3, v4⟩⟩ := bx_fv hW0
   have c3 : W0.cell? _ = _ := carry hb0 hG c3
   have t0 : W0.cell? _ = _ := carry hb0 hTw t0
   have t1 : W0.cell? _ = _ := carry hb0 hTw t1
   have t2 : W0.cell? _ = _ := carry hb0 hTw t2
   have t3 : W0.cell? _ = _ := carry hb0 hTw t3
   have t4 : W0.cell? _ = _ := carry hb0 hTw t4
   have t5 : W0.cell? _ = _ := carry hb0 hTw t5
   have t6 : W0.cell? _ = _ := carry hb0 hTw t6
   have t7 : W0.cell? _ = _ := carry hb0 hTw t7
   have t8 : W0.cell? _ = _ := carry hb0 hTw t8
   have hG0 : G < W0.heap.size := Nat.lt_of_lt_of_le hG hb0.size
   have hT0 : T < W0.heap.size := Nat.lt_of_lt_of_le hTw hb0.size
   have hl0 : w.heap.size < W0.heap.size := by omega
   have hl1 : w.heap.size + 1 < W0.heap.size := by omega
   have hb0 := Lib.hid hb0
   clear hW0 hs0
   go_region
   go_wp2_with fail
   obtain ⟨W3, hW3, hb3⟩ : ∃ W, W = (W0.alloc (.cells #[.int .i64 xk, .int .i64 xa, .int .i64 xb, .int .i64 xc, .int .i64 xn, .int .i64 xx, .int .i64 xy, .int .i64 xz, .int .i64 xw] 37)).drew ∧ Below W0.heap.size W0 W := ⟨_, rfl, by (repeat' (first | (with_reducible first | exact bR _ _ | assumption | apply bS | apply bA | apply bD | apply bN | exact bL _) | (simp; done) | (simp; omega) | omega | exact bL _))⟩
   rw [← hW3]
   refine (hap.out W3).mono ?_
   rintro e1 w1 ⟨rfl, hb1⟩
   have hB := Lib.hid (belT (belT hb0.out hb3) hb1)
   clear hb0 hb3 hW3 hb1 hap
   clear t0 t1 t2 t3 t4 t5 t6 t7 t8 f0 f1 f2 f3 f4 f5 f6 f7 v0 v1 v2 v3 v4 c3
   go_wp2_with fail
   refine (hgv.out (.tru o2) ⟨1, o2, none, none, none⟩ _ (belT hB.out (by (repeat' (first | (with_reducible first | exact bR _ _ | assumption | apply bS | apply bA | apply bD | apply bN | exact bL _) | (simp; done) | (simp; omega) | omega | exact bL _)))) rfl).mono ?_
   rintro e2 w2 ⟨rfl, hf, _, _⟩
   go_wp2_with fail
   all_goals go_end0
   all_goals exact ⟨rfl, hf⟩
  ·rw [if_neg ho1]
   go_enter Try.func75, Try.ntmps75
   go_wp2_with fail
   obtain ⟨W0, hW0⟩ : ∃ W, (w.alloc (.cells #[.int .i64 xst, .int .i64 i, .pointer xen, .int .i64 0, .int .i64 y1, .pointer y2, .pointer y3, .pointer y4] 129)).alloc (.cells #[.int .i64 0, .int .i64 z1, .pointer z2, .pointer z3, .pointer z4] 56) = W := ⟨_, rfl⟩
   rw [hW0]
   obtain ⟨hb0, hs0, ⟨f0, f1, f2, f3, f4, f5, f6, f7⟩, ⟨v0, v1, v2, v3, v4⟩⟩ := bx_fv hW0
   have c3 : W0.cell? _ = _ := carry hb0 hG c3
   have t0 : W0.cell? _ = _ := carry hb0 hTw t0
   have t1 : W0.cell? _ = _ := carry hb0 hTw t1
   have t2 : W0.cell? _ = _ := carry hb0 hTw t2
   have t3 : W0.cell? _ = _ := carry hb0 hTw t3
   have t4 : W0.cell? _ = _ := carry hb0 hTw t4
   have t5 : W0.cell? _ = _ := carry hb0 hTw t5
   have t6 : W0.cell? _ = _ := carry hb0 hTw t6
   have t7 : W0.cell? _ = _ := carry hb0 hTw t7
   have t8 : W0.cell? _ = _ := carry hb0 hTw t8
   have hG0 : G < W0.heap.size := Nat.lt_of_lt_of_le hG hb0.size
   have hT0 : T < W0.heap.size := Nat.lt_of_lt_of_le hTw hb0.size
   have hl0 : w.heap.size < W0.heap.size := by omega
   have hl1 : w.heap.size + 1 < W0.heap.size := by omega
   have hb0 := Lib.hid hb0
   clear hW0 hs0
   go_region
   go_wp2_with fail
   obtain ⟨W3, hW3, hb3⟩ : ∃ W, W = (W0.alloc (.cells #[.int .i64 xk, .int .i64 xa, .int .i64 xb, .int .i64 xc, .int .i64 xn, .int .i64 xx, .int .i64 xy, .int .i64 xz, .int .i64 xw] 37)).drew ∧ Below W0.heap.size W0 W := ⟨_, rfl, by (repeat' (first | (with_reducible first | exact bR _ _ | assumption | apply bS | apply bA | apply bD | apply bN | exact bL _) | (simp; done) | (simp; omega) | omega | exact bL _))⟩
   rw [← hW3]
   refine (hap.out W3).mono ?_
   rintro e1 w1 ⟨rfl, hb1⟩
   have hB := Lib.hid (belT (belT hb0.out hb3) hb1)
   clear hb0 hb3 hW3 hb1 hap
   clear t0 t1 t2 t3 t4 t5 t6 t7 t8 f0 f1 f2 f3 f4 f5 f6 f7 v0 v1 v2 v3 v4 c3
   go_wp2_with fail
   go_region_with (refine (hnd.out o1 o2 _ (belT hB.out (by (repeat' (first | (with_reducible first | exact bR _ _ | assumption | apply bS | apply bA | apply bD | apply bN | exact bL _) | (simp; done) | (simp; omega) | omega | exact bL _))))).mono ?_; rintro e2 w2 ⟨rfl, hf⟩)
   all_goals
    go_wp2_with fail
    all_goals go_end0
    all_goals exact ⟨rfl, hf⟩
theorem second_any (B G : Nat) (tv fv sv : Value) (c : Mc) (l : List Fr) (ts : List Tg) (w : World) (stk : List RF) (f : RF) (x : Fr) (v : RV) (t : Th) (h : Hid (Wk B G tv fv sv c l ts stk f x v t w)) {L : Int} {K : Nat} (hp : (ndT ts f.node).k ≠ 10 → 0 ≤ (ndT ts f.node).n ∧ (ndT ts f.node).n ≤ 5) (hu : f.val.fit L K) (hv : v.fit L K) :
  Calls Try.prog 75 #[.pointer (some ⟨G, 0, none⟩), x.val, t.val] w (NsP c.w0 B G tv fv (rSecond (ndT ts f.node) f v stk)) := by
 by_cases hk : (ndT ts f.node).k = 10
 ·exact second_op B G tv fv sv c l ts w stk f x v t h hk
 ·rcases rr_num h.out.fr.2.2.2 with ⟨h0, hf⟩ | ⟨h0, hf⟩
  ·rcases rr_num h.out.vl with ⟨h1, hg⟩ | ⟨h1, hg⟩
   ·refine second_yes B G tv fv sv c l ts w stk f x v t h hk (hp hk) h0 h1 hf hg ?_ ?_
    ·rw [hf] at hu; exact hu
    ·rw [hg] at hv; exact hv
   ·exact second_no2 B G tv fv sv c l ts w stk f x v t h hk h0 h1 hg
  ·exact second_no1 B G tv fv sv c l ts w stk f x v t h hk h0 hf
end Go.Proofs.Ytnjalpcmjkahkaa
