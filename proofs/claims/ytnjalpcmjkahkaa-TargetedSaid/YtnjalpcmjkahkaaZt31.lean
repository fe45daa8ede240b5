/- The machine of layer 21: a value for a handler. -/
import Derived.Test.YtnjalpcmjkahkaaZt30
set_option maxRecDepth 100000
set_option maxHeartbeats 8000000
namespace Go.Proofs.Ytnjalpcmjkahkaa
open Go.RowKit
set_option linter.unusedVariables false
set_option linter.unusedSimpArgs false
theorem rCase_own {t : Tg} {fur n : Int} {stk : List RF} {env u g : RV} (h : n = t.n) : rCase t fur stk env (.op n u g) = .ev stk t.c (.cons g (.cons u env)) := by unfold rCase; dsimp only; rw [if_pos h]
theorem rCase_no {t : Tg} {fur n : Int} {stk : List RF} {env u g : RV} (h : ¬ n = t.n) (ha : env.atI fur = none) : rCase t fur stk env (.op n u g) = .en 5 0 := by unfold rCase; dsimp only; rw [if_neg h, ha]
theorem rCase_fwd {t : Tg} {fur n : Int} {stk : List RF} {env u g who : RV} (h : ¬ n = t.n) (ha : env.atI fur = some who) : rCase t fur stk env (.op n u g) = .gv stk (.op n u (.fwd g who)) := by unfold rCase; dsimp only; rw [if_neg h, ha]
theorem FvR.below {B G : Nat} {w w' : World} {fv : Value} {fur : List Int} (h : FvR B G w fv fur) (hb : Below w.heap.size w w') : FvR B G w' fv fur := by
 obtain ⟨F, c, h1, h2, h3, h4, h5⟩ := h
 exact ⟨F, c, h1, h2, h3, Nat.lt_of_lt_of_le h4 hb.size, fun i hi => carry hb h4 (h5 i hi)⟩
theorem handle_ret (B G : Nat) (tv fv sv : Value) (c : Mc) (l : List Fr) (ts : List Tg) (fur : List Int) (w : World) (stk : List RF) (f : RF) (x : Fr) (v : RV) (t : Th) (h : Hid (Wk B G tv fv sv c l ts stk f x v t w)) (hF : Hid (FvR B G w fv fur)) (hfl : fur.length = ts.length)
  (hfb : -1 ≤ fur.getD f.node.toNat 0 ∧ fur.getD f.node.toNat 0 ≤ 1000000000) (hel : f.env.list.length ≤ 900000000) (u : RV) (g oo : Nat) (tu : Th) (hv : v = .ret u) (ht : t = ⟨5, 0, none, some ⟨g, oo, none⟩, none⟩) (hgw : g < w.heap.size) (hgn : ¬ Bp G sv g) (hth : ThO w g oo tu) (hru : RR (Bp G sv) w u (.inl tu)) :
  Calls Try.prog 84 #[.pointer (some ⟨G, 0, none⟩), x.val, t.val] w (NsP c.w0 B G tv fv (rCase (ndT ts f.node) (fur.getD f.node.toNat 0) stk f.env v)) := by
 have hst := Lib.hid h.out.stuck
 have hen := Lib.hid fun env p n W hb he => h.out.enter (env := env) (p := p) n W hb he
 have hgv := Lib.hid fun u y W hb he => h.out.give (u := u) y W hb he
 have hwi := Lib.hid fun env u p tu hl W hb he hu => h.out.withv (env := env) (u := u) (p := p) (tu := tu) hl W hb he hu
 have henv := Lib.hid fun W hb => (h.out.below (w' := W) hb).fr.2.2.1
 have hbx := Lib.hid fun (W : World) (b o : Nat) (t : Th) h1 h2 h3 => h.out.mr.bx (w' := W) (b := b) (o := o) (t := t) h1 h2 h3
 obtain ⟨T, off, cp, i, rfl, hTw, hG, c3, hi, hfi, hxi, hT, hfz⟩ := h.out.open
 have hnT : ¬ Bq G T := h.out.mr_T
 obtain ⟨n, hn⟩ : ∃ n, ndT ts f.node = n := ⟨_, rfl⟩
 rw [hn] at hT ⊢
 obtain ⟨xst, xnd, xen, ⟨y0, y1, y2, y3, y4⟩⟩ := x
 obtain ⟨xk, xa, xb, xc, xn, xx, xy, xz, xw⟩ := n
 obtain ⟨t0, t1, t2, t3, t4, t5, t6, t7, t8⟩ := hT
 dsimp only at hxi hen henv t0 t1 t2 t3 t4 t5 t6 t7 t8
 subst hxi
 subst hv ht
 unfold Fr.val Th.val
 dsimp only
 rw [show ∀ q, rCase ⟨xk, xa, xb, xc, xn, xx, xy, xz, xw⟩ q stk f.env (.ret u) = .ev stk xb (.cons u f.env) from fun _ => rfl]
 have hru := Lib.hid fun W hb => hru.below (W' := W) hb
 clear h hF hfb hbx hgv hst
 go_enter Try.func84, Try.ntmps84
 go_wp2_with fail
 obtain ⟨W0, hW0⟩ : ∃ W, (w.alloc (.cells #[.int .i64 xst, .int .i64 i, .pointer xen, .int .i64 y0, .int .i64 y1, .pointer y2, .pointer y3, .pointer y4] 129)).alloc (.cells #[.int .i64 5, .int .i64 0, .pointer none, .pointer (some ⟨g, oo, none⟩), .pointer none] 56) = W := ⟨_, rfl⟩
 rw [hW0]
 obtain ⟨hb0, hs0, ⟨f0, f1, f2, f3, f4, f5, f6, f7⟩, ⟨v0, v1, v2, v3, v4⟩⟩ := bx_fv hW0
 have c3 : W0.cell? _ = _ := carry hb0 hG c3
 have t0 : W0.cell? _ = _ := carry hb0 hTw t0
 have t1 : W0.cell? _ = _ := carry hb0 hTw t1
 have t2 : W0.cell? _ = _ := carry hb0 hTw t2
 have t3 : W0.cell? _ = _ := carry hb0 hTw t3
 have t4 : W0.cell? _ = _ := carry hb0 hTw t4
 have t5 : W0.cell? _ = _ := carry hb0 hTw t5
 have t6 : W0.cell? _ = _ := carry hb0 hTw t6
 have t7 : W0.cell? _ = _ := carry hb0 hTw t7
 have t8 : W0.cell? _ = _ := carry hb0 hTw t8
 have hG0 : G < W0.heap.size := Nat.lt_of_lt_of_le hG hb0.size
 have hT0 : T < W0.heap.size := Nat.lt_of_lt_of_le hTw hb0.size
 have hl0 : w.heap.size < W0.heap.size := by omega
 have hl1 : w.heap.size + 1 < W0.heap.size := by omega
 have hb0 := Lib.hid hb0
 clear hW0 hs0
 have hnf : ¬ Bq G w.heap.size := fun e => by have e : w.heap.size = G := e; omega
 have hnv : ¬ Bq G (w.heap.size + 1) := fun e => by have e : w.heap.size + 1 = G := e; omega
 have hi0 : (0 : Int) ≤ (i : Int) := by omega
 have hi1 : (i : Int) < (ts.length : Int) := by omega
 obtain ⟨u0, u1, u2, u3, u4⟩ := hth
 go_region
 go_wp2_with fail
 obtain ⟨W3, hW3, hb3⟩ : ∃ W, W = (W0.alloc (.cells #[.int .i64 xk, .int .i64 xa, .int .i64 xb, .int .i64 xc, .int .i64 xn, .int .i64 xx, .int .i64 xy, .int .i64 xz, .int .i64 xw] 37)).drew ∧ Below W0.heap.size W0 W := ⟨_, rfl, by (repeat' (first | (with_reducible first | exact bR _ _ | assumption | apply bS | apply bA | apply bD | apply bN | exact bL _) | (simp; done) | (simp; omega) | omega | exact bL _))⟩
 rw [← hW3]
 have n2 : W3.cell? ⟨W0.heap.size, 2, none⟩ = some (.int .i64 xb) := by rw [hW3]; simp [go_sem]
 have n3 : W3.cell? ⟨W0.heap.size, 3, none⟩ = some (.int .i64 xc) := by rw [hW3]; simp [go_sem]
 have hl3 : W0.heap.size < W3.heap.size := by rw [hW3]; simp
 have hn3 : ¬ Bq G W0.heap.size := fun e => by have e : W0.heap.size = G := e; omega
 clear hW3
 have c3 : W3.cell? _ = _ := carry hb3 hG0 c3
 have f2 : W3.cell? _ = _ := carry hb3 hl0 f2
 have v3 : W3.cell? _ = _ := carry hb3 hl1 v3
 have hG3 : G < W3.heap.size := Nat.lt_of_lt_of_le hG0 hb3.size
 have hf3 : w.heap.size < W3.heap.size := Nat.lt_of_lt_of_le hl0 hb3.size
 have hv3 : w.heap.size + 1 < W3.heap.size := Nat.lt_of_lt_of_le hl1 hb3.size
 have hb30 := Lib.hid (belT hb0.out hb3)
 clear hb3 hb0 t0 t1 t2 t3 t4 t5 t6 t7 t8 hG0 hl0 hl1 hT0
 have u0 : W3.cell? _ = _ := carry hb30.out hgw u0
 have u1 : W3.cell? _ = _ := carry hb30.out hgw u1
 have u2 : W3.cell? _ = _ := carry hb30.out hgw u2
 have u3 : W3.cell? _ = _ := carry hb30.out hgw u3
 have u4 : W3.cell? _ = _ := carry hb30.out hgw u4
 have hnb : ¬ Bq G g := fun e => hgn (.inl e)
 have hgw0 : g < W3.heap.size := Nat.lt_of_lt_of_le hgw hb30.out.size
 clear f0 f1 f3 f4 f5 f6 f7 v0 v1 v2 v4
 refine wp_region_held_drew (S := fun W => Bar (Bq G) W3 W ∧ W.cell? ⟨G, 3, none⟩ = some (.slice (some ⟨T, off, none⟩) ts.length cp)) (by kernel_rfl) (⟨Bar.of_below ((Below.refl _ _).drew), carry ((Below.refl _ _).drew) hG3 c3⟩) (fun hHeld => ?_)
 refine rg_take 0 (some 25) (v := ?v1) rfl rfl (by kernel_rfl) (by kernel_rfl) (by kernel_rfl) (fun _ _ _ h => h) (by rfl) ?hy1 (by assumption) ?_
 case hy1 => intro W hSW; (try dsimp only at hSW); have z0 := hSW.2; have q0 := Nat.lt_of_lt_of_le hG3 hSW.1.size; have q1 := Nat.lt_of_lt_of_le hf3 hSW.1.size; have q2 := Nat.lt_of_lt_of_le hv3 hSW.1.size; have q3 := Nat.lt_of_lt_of_le hl3 hSW.1.size; have z2 := hSW.1.cell f2 hnf; have z3 := hSW.1.cell n2 hn3; have z9 := hSW.1.cell n3 hn3; have z4 := hSW.1.cell v3 hnv; have y0 := hSW.1.cell u0 hnb; have y1 := hSW.1.cell u1 hnb; have y2 := hSW.1.cell u2 hnb; have y3 := hSW.1.cell u3 hnb; have y4 := hSW.1.cell u4 hnb; have q4 := Nat.lt_of_lt_of_le hgw0 hSW.1.size; go_simp; (try with_reducible rfl)
 try simp only [Act.put, bP, bQ, bT]
 refine rg_take 1 (some 26) (v := ?v2) rfl rfl (by kernel_rfl) (by kernel_rfl) (by kernel_rfl) (fun _ _ _ h => h) (by rfl) ?hy2 (by assumption) ?_
 case hy2 => intro W hSW; (try dsimp only at hSW); have z0 := hSW.2; have q0 := Nat.lt_of_lt_of_le hG3 hSW.1.size; have q1 := Nat.lt_of_lt_of_le hf3 hSW.1.size; have q2 := Nat.lt_of_lt_of_le hv3 hSW.1.size; have q3 := Nat.lt_of_lt_of_le hl3 hSW.1.size; have z2 := hSW.1.cell f2 hnf; have z3 := hSW.1.cell n2 hn3; have z9 := hSW.1.cell n3 hn3; have z4 := hSW.1.cell v3 hnv; have y0 := hSW.1.cell u0 hnb; have y1 := hSW.1.cell u1 hnb; have y2 := hSW.1.cell u2 hnb; have y3 := hSW.1.cell u3 hnb; have y4 := hSW.1.cell u4 hnb; have q4 := Nat.lt_of_lt_of_le hgw0 hSW.1.size; go_simp; (try with_reducible rfl)
 try simp only [Act.put, bP, bQ, bT]
 refine rg_take 2 (some 27) (v := ?v3) rfl rfl (by kernel_rfl) (by kernel_rfl) (by kernel_rfl) (fun _ _ _ h => h) (by rfl) ?hy3 (by assumption) ?_
 case hy3 => intro W hSW; (try dsimp only at hSW); have z0 := hSW.2; have q0 := Nat.lt_of_lt_of_le hG3 hSW.1.size; have q1 := Nat.lt_of_lt_of_le hf3 hSW.1.size; have q2 := Nat.lt_of_lt_of_le hv3 hSW.1.size; have q3 := Nat.lt_of_lt_of_le hl3 hSW.1.size; have z2 := hSW.1.cell f2 hnf; have z3 := hSW.1.cell n2 hn3; have z9 := hSW.1.cell n3 hn3; have z4 := hSW.1.cell v3 hnv; have y0 := hSW.1.cell u0 hnb; have y1 := hSW.1.cell u1 hnb; have y2 := hSW.1.cell u2 hnb; have y3 := hSW.1.cell u3 hnb; have y4 := hSW.1.cell u4 hnb; have q4 := Nat.lt_of_lt_of_le hgw0 hSW.1.size; go_simp; (try with_reducible rfl)
 try simp only [Act.put, bP, bQ, bT]
 refine rg_take 3 (some 28) (v := ?v4) rfl rfl (by kernel_rfl) (by kernel_rfl) (by kernel_rfl) (fun _ _ _ h => h) (by rfl) ?hy4 (by assumption) ?_
 case hy4 => intro W hSW; (try dsimp only at hSW); have z0 := hSW.2; have q0 := Nat.lt_of_lt_of_le hG3 hSW.1.size; have q1 := Nat.lt_of_lt_of_le hf3 hSW.1.size; have q2 := Nat.lt_of_lt_of_le hv3 hSW.1.size; have q3 := Nat.lt_of_lt_of_le hl3 hSW.1.size; have z2 := hSW.1.cell f2 hnf; have z3 := hSW.1.cell n2 hn3; have z9 := hSW.1.cell n3 hn3; have z4 := hSW.1.cell v3 hnv; have y0 := hSW.1.cell u0 hnb; have y1 := hSW.1.cell u1 hnb; have y2 := hSW.1.cell u2 hnb; have y3 := hSW.1.cell u3 hnb; have y4 := hSW.1.cell u4 hnb; have q4 := Nat.lt_of_lt_of_le hgw0 hSW.1.size; go_simp; (try with_reducible rfl)
 try simp only [Act.put, bP, bQ, bT]
 refine rg_take 4 (some 29) (v := ?v5) rfl rfl (by kernel_rfl) (by kernel_rfl) (by kernel_rfl) (fun _ _ _ h => h) (by rfl) ?hy5 (by assumption) ?_
 case hy5 => intro W hSW; (try dsimp only at hSW); have z0 := hSW.2; have q0 := Nat.lt_of_lt_of_le hG3 hSW.1.size; have q1 := Nat.lt_of_lt_of_le hf3 hSW.1.size; have q2 := Nat.lt_of_lt_of_le hv3 hSW.1.size; have q3 := Nat.lt_of_lt_of_le hl3 hSW.1.size; have z2 := hSW.1.cell f2 hnf; have z3 := hSW.1.cell n2 hn3; have z9 := hSW.1.cell n3 hn3; have z4 := hSW.1.cell v3 hnv; have y0 := hSW.1.cell u0 hnb; have y1 := hSW.1.cell u1 hnb; have y2 := hSW.1.cell u2 hnb; have y3 := hSW.1.cell u3 hnb; have y4 := hSW.1.cell u4 hnb; have q4 := Nat.lt_of_lt_of_le hgw0 hSW.1.size; go_simp; (try with_reducible rfl)
 try simp only [Act.put, bP, bQ, bT]
 refine rg_take 5 (some 30) (v := ?v6) rfl rfl (by kernel_rfl) (by kernel_rfl) (by kernel_rfl) (fun _ _ _ h => h) (by rfl) ?hy6 (by assumption) ?_
 case hy6 => intro W hSW; (try dsimp only at hSW); have z0 := hSW.2; have q0 := Nat.lt_of_lt_of_le hG3 hSW.1.size; have q1 := Nat.lt_of_lt_of_le hf3 hSW.1.size; have q2 := Nat.lt_of_lt_of_le hv3 hSW.1.size; have q3 := Nat.lt_of_lt_of_le hl3 hSW.1.size; have z2 := hSW.1.cell f2 hnf; have z3 := hSW.1.cell n2 hn3; have z9 := hSW.1.cell n3 hn3; have z4 := hSW.1.cell v3 hnv; have y0 := hSW.1.cell u0 hnb; have y1 := hSW.1.cell u1 hnb; have y2 := hSW.1.cell u2 hnb; have y3 := hSW.1.cell u3 hnb; have y4 := hSW.1.cell u4 hnb; have q4 := Nat.lt_of_lt_of_le hgw0 hSW.1.size; go_simp; (try with_reducible rfl)
 try simp only [Act.put, bP, bQ, bT]
 refine rg_take 6 (some 31) (v := ?v7) rfl rfl (by kernel_rfl) (by kernel_rfl) (by kernel_rfl) (fun _ _ _ h => h) (by rfl) ?hy7 (by assumption) ?_
 case hy7 => intro W hSW; (try dsimp only at hSW); have z0 := hSW.2; have q0 := Nat.lt_of_lt_of_le hG3 hSW.1.size; have q1 := Nat.lt_of_lt_of_le hf3 hSW.1.size; have q2 := Nat.lt_of_lt_of_le hv3 hSW.1.size; have q3 := Nat.lt_of_lt_of_le hl3 hSW.1.size; have z2 := hSW.1.cell f2 hnf; have z3 := hSW.1.cell n2 hn3; have z9 := hSW.1.cell n3 hn3; have z4 := hSW.1.cell v3 hnv; have y0 := hSW.1.cell u0 hnb; have y1 := hSW.1.cell u1 hnb; have y2 := hSW.1.cell u2 hnb; have y3 := hSW.1.cell u3 hnb; have y4 := hSW.1.cell u4 hnb; have q4 := Nat.lt_of_lt_of_le hgw0 hSW.1.size; go_simp; (try with_reducible rfl)
 try simp only [Act.put, bP, bQ, bT]
 refine rg_take 7 (some 32) (v := ?v8) rfl rfl (by kernel_rfl) (by kernel_rfl) (by kernel_rfl) (fun _ _ _ h => h) (by rfl) ?hy8 (by assumption) ?_
 case hy8 => intro W hSW; (try dsimp only at hSW); have z0 := hSW.2; have q0 := Nat.lt_of_lt_of_le hG3 hSW.1.size; have q1 := Nat.lt_of_lt_of_le hf3 hSW.1.size; have q2 := Nat.lt_of_lt_of_le hv3 hSW.1.size; have q3 := Nat.lt_of_lt_of_le hl3 hSW.1.size; have z2 := hSW.1.cell f2 hnf; have z3 := hSW.1.cell n2 hn3; have z9 := hSW.1.cell n3 hn3; have z4 := hSW.1.cell v3 hnv; have y0 := hSW.1.cell u0 hnb; have y1 := hSW.1.cell u1 hnb; have y2 := hSW.1.cell u2 hnb; have y3 := hSW.1.cell u3 hnb; have y4 := hSW.1.cell u4 hnb; have q4 := Nat.lt_of_lt_of_le hgw0 hSW.1.size; go_simp; (try with_reducible rfl)
 try simp only [Act.put, bP, bQ, bT]
 refine rg_take 8 (some 33) (v := ?v9) rfl rfl (by kernel_rfl) (by kernel_rfl) (by kernel_rfl) (fun _ _ _ h => h) (by rfl) ?hy9 (by assumption) ?_
 case hy9 => intro W hSW; (try dsimp only at hSW); have z0 := hSW.2; have q0 := Nat.lt_of_lt_of_le hG3 hSW.1.size; have q1 := Nat.lt_of_lt_of_le hf3 hSW.1.size; have q2 := Nat.lt_of_lt_of_le hv3 hSW.1.size; have q3 := Nat.lt_of_lt_of_le hl3 hSW.1.size; have z2 := hSW.1.cell f2 hnf; have z3 := hSW.1.cell n2 hn3; have z9 := hSW.1.cell n3 hn3; have z4 := hSW.1.cell v3 hnv; have y0 := hSW.1.cell u0 hnb; have y1 := hSW.1.cell u1 hnb; have y2 := hSW.1.cell u2 hnb; have y3 := hSW.1.cell u3 hnb; have y4 := hSW.1.cell u4 hnb; have q4 := Nat.lt_of_lt_of_le hgw0 hSW.1.size; go_simp; (try with_reducible rfl)
 try simp only [Act.put, bP, bQ, bT]
 refine rg_one 9 rfl (by kernel_rfl) (by rfl) (fun K hK => ?_)
 go_simp
 refine (hwi.out f.env u xen tu (by omega) _ (belT hb30.out ((Below.refl _ _).drew)) (henv.out _ (belT hb30.out ((Below.refl _ _).drew))) (hru.out _ (belT hb30.out ((Below.refl _ _).drew)))).mono ?_
 rintro e9 w9 ⟨p9, rfl, he9, hb9⟩
 have hc9 : Below W3.heap.size W3 w9 := belT ((Below.refl _ _).drew) hb9
 refine hK.out _ _ ⟨Bar.of_below hc9, carry hc9 hG3 c3⟩ (fun hH9 => ?_)
 clear hK K
 try simp only [Act.put, bP, bQ, bT]
 refine rg_one 10 rfl (by kernel_rfl) (by rfl) (fun K hK => ?_)
 go_simp
 refine (hen.out _ p9 xb w9 (belT hb30.out hc9) he9).mono ?_
 rintro e8 w8 ⟨rfl, hf, hb8, c38⟩
 refine hK.out _ _ ⟨(Bar.of_below hc9).trans hb8 fun _ _ h => h, c38⟩ (fun hH8 => ?_)
 clear hK K
 try simp only [Act.put, bP, bQ, bT]
 refine wpAnyH_done (by kernel_rfl) ?_ _
 go_wp2_with fail
 all_goals go_end0
 all_goals exact ⟨rfl, hf⟩
theorem handle_own (B G : Nat) (tv fv sv : Value) (c : Mc) (l : List Fr) (ts : List Tg) (fur : List Int) (w : World) (stk : List RF) (f : RF) (x : Fr) (v : RV) (t : Th) (h : Hid (Wk B G tv fv sv c l ts stk f x v t w)) (hF : Hid (FvR B G w fv fur)) (hfl : fur.length = ts.length)
  (hfb : -1 ≤ fur.getD f.node.toNat 0 ∧ fur.getD f.node.toNat 0 ≤ 1000000000) (hel : f.env.list.length ≤ 900000000) (n : Int) (u k : RV) (g oo g2 o2 : Nat) (tu te : Th) (hv : v = .op n u k) (ht : t = ⟨6, n, none, some ⟨g, oo, none⟩, some ⟨g2, o2, none⟩⟩) (hgw : g < w.heap.size) (hgn : ¬ Bp G sv g) (hth : ThO w g oo tu) (hru : RR (Bp G sv) w u (.inl tu))
  (hgw2 : g2 < w.heap.size) (hgn2 : ¬ Bp G sv g2) (hth2 : ThO w g2 o2 te) (hrg : RR (Bp G sv) w k (.inl te)) (hnn : n = (ndT ts f.node).n) :
  Calls Try.prog 84 #[.pointer (some ⟨G, 0, none⟩), x.val, t.val] w (NsP c.w0 B G tv fv (rCase (ndT ts f.node) (fur.getD f.node.toNat 0) stk f.env v)) := by
 have hst := Lib.hid h.out.stuck
 have hen := Lib.hid fun env p n W hb he => h.out.enter (env := env) (p := p) n W hb he
 have hgv := Lib.hid fun u y W hb he => h.out.give (u := u) y W hb he
 have hwi := Lib.hid fun env u p tu hl W hb he hu => h.out.withv (env := env) (u := u) (p := p) (tu := tu) hl W hb he hu
 have henv := Lib.hid fun W hb => (h.out.below (w' := W) hb).fr.2.2.1
 have hbx := Lib.hid fun (W : World) (b o : Nat) (t : Th) h1 h2 h3 => h.out.mr.bx (w' := W) (b := b) (o := o) (t := t) h1 h2 h3
 obtain ⟨T, off, cp, i, rfl, hTw, hG, c3, hi, hfi, hxi, hT, hfz⟩ := h.out.open
 have hnT : ¬ Bq G T := h.out.mr_T
 obtain ⟨n, hn⟩ : ∃ n, ndT ts f.node = n := ⟨_, rfl⟩
 rw [hn] at hT hnn ⊢
 obtain ⟨xst, xnd, xen, ⟨y0, y1, y2, y3, y4⟩⟩ := x
 obtain ⟨xk, xa, xb, xc, xn, xx, xy, xz, xw⟩ := n
 obtain ⟨t0, t1, t2, t3, t4, t5, t6, t7, t8⟩ := hT
 dsimp only at hxi hen henv t0 t1 t2 t3 t4 t5 t6 t7 t8
 subst hxi
 subst hv ht
 dsimp only at hnn
 subst hnn
 unfold Fr.val Th.val
 dsimp only
 rw [rCase_own rfl]
 dsimp only
 have hru := Lib.hid fun W hb => hru.below (W' := W) hb
 have hrg := Lib.hid fun W hb => hrg.below (W' := W) hb
 clear h hF hfb hbx hgv hst
 go_enter Try.func84, Try.ntmps84
 go_wp2_with fail
 obtain ⟨W0, hW0⟩ : ∃ W, (w.alloc (.cells #[.int .i64 xst, .int .i64 i, .pointer xen, .int .i64 y0, .int .i64 y1, .pointer y2, .pointer y3, .pointer y4] 129)).alloc (.cells #[.int .i64 6, .int .i64 n, .pointer none, .pointer (some ⟨g, oo, none⟩), .pointer (some ⟨g2, o2, none⟩)] 56) = W := ⟨_, rfl⟩
 rw [hW0]
 obtain ⟨hb0, hs0, ⟨f0, f1, f2, f3, f4, f5, f6, f7⟩, ⟨v0, v1, v2, v3, v4⟩⟩ := bx_fv hW0
 have c3 : W0.cell? _ = _ := carry hb0 hG c3
 have t0 : W0.cell? _ = _ := carry hb0 hTw t0
 have t1 : W0.cell? _ = _ := carry hb0 hTw t1
 have t2 : W0.cell? _ = _ := carry hb0 hTw t2
 have t3 : W0.cell? _ = _ := carry hb0 hTw t3
 have t4 : W0.cell? _ = _ := carry hb0 hTw t4
 have t5 : W0.cell? _ = _ := carry hb0 hTw t5
 have t6 : W0.cell? _ = _ := carry hb0 hTw t6
 have t7 : W0.cell? _ = _ := carry hb0 hTw t7
 have t8 : W0.cell? _ = _ := carry hb0 hTw t8
 have hG0 : G < W0.heap.size := Nat.lt_of_lt_of_le hG hb0.size
 have hT0 : T < W0.heap.size := Nat.lt_of_lt_of_le hTw hb0.size
 have hl0 : w.heap.size < W0.heap.size := by omega
 have hl1 : w.heap.size + 1 < W0.heap.size := by omega
 have hb0 := Lib.hid hb0
 clear hW0 hs0
 have hnf : ¬ Bq G w.heap.size := fun e => by have e : w.heap.size = G := e; omega
 have hnv : ¬ Bq G (w.heap.size + 1) := fun e => by have e : w.heap.size + 1 = G := e; omega
 have hi0 : (0 : Int) ≤ (i : Int) := by omega
 have hi1 : (i : Int) < (ts.length : Int) := by omega
 obtain ⟨u0, u1, u2, u3, u4⟩ := hth
 obtain ⟨x0, x1, x2, x3, x4⟩ := hth2
 go_region
 go_wp2_with fail
 obtain ⟨W3, hW3, hb3⟩ : ∃ W, W = (W0.alloc (.cells #[.int .i64 xk, .int .i64 xa, .int .i64 xb, .int .i64 xc, .int .i64 n, .int .i64 xx, .int .i64 xy, .int .i64 xz, .int .i64 xw] 37)).drew ∧ Below W0.heap.size W0 W := ⟨_, rfl, by (repeat' (first | (with_reducible first | exact bR _ _ | assumption | apply bS | apply bA | apply bD | apply bN | exact bL _) | (simp; done) | (simp; omega) | omega | exact bL _))⟩
 rw [← hW3]
 have n2 : W3.cell? ⟨W0.heap.size, 2, none⟩ = some (.int .i64 xb) := by rw [hW3]; simp [go_sem]
 have n3 : W3.cell? ⟨W0.heap.size, 3, none⟩ = some (.int .i64 xc) := by rw [hW3]; simp [go_sem]
 have hl3 : W0.heap.size < W3.heap.size := by rw [hW3]; simp
 have hn3 : ¬ Bq G W0.heap.size := fun e => by have e : W0.heap.size = G := e; omega
 clear hW3
 have c3 : W3.cell? _ = _ := carry hb3 hG0 c3
 have f2 : W3.cell? _ = _ := carry hb3 hl0 f2
 have v3 : W3.cell? _ = _ := carry hb3 hl1 v3
 have v4 : W3.cell? _ = _ := carry hb3 hl1 v4
 have hG3 : G < W3.heap.size := Nat.lt_of_lt_of_le hG0 hb3.size
 have hf3 : w.heap.size < W3.heap.size := Nat.lt_of_lt_of_le hl0 hb3.size
 have hv3 : w.heap.size + 1 < W3.heap.size := Nat.lt_of_lt_of_le hl1 hb3.size
 have hb30 := Lib.hid (belT hb0.out hb3)
 clear hb3 hb0 t0 t1 t2 t3 t4 t5 t6 t7 t8 hG0 hl0 hl1 hT0
 have u0 : W3.cell? _ = _ := carry hb30.out hgw u0
 have u1 : W3.cell? _ = _ := carry hb30.out hgw u1
 have u2 : W3.cell? _ = _ := carry hb30.out hgw u2
 have u3 : W3.cell? _ = _ := carry hb30.out hgw u3
 have u4 : W3.cell? _ = _ := carry hb30.out hgw u4
 have x0 : W3.cell? _ = _ := carry hb30.out hgw2 x0
 have x1 : W3.cell? _ = _ := carry hb30.out hgw2 x1
 have x2 : W3.cell? _ = _ := carry hb30.out hgw2 x2
 have x3 : W3.cell? _ = _ := carry hb30.out hgw2 x3
 have x4 : W3.cell? _ = _ := carry hb30.out hgw2 x4
 have hnb : ¬ Bq G g := fun e => hgn (.inl e)
 have hnb2 : ¬ Bq G g2 := fun e => hgn2 (.inl e)
 have hgw0 : g < W3.heap.size := Nat.lt_of_lt_of_le hgw hb30.out.size
 have hgw4 : g2 < W3.heap.size := Nat.lt_of_lt_of_le hgw2 hb30.out.size
 clear f0 f1 f3 f4 f5 f6 f7 v0 v1 v2
 refine wp_region_held_drew (S := fun W => Bar (Bq G) W3 W ∧ W.cell? ⟨G, 3, none⟩ = some (.slice (some ⟨T, off, none⟩) ts.length cp)) (by kernel_rfl) (⟨Bar.of_below ((Below.refl _ _).drew), carry ((Below.refl _ _).drew) hG3 c3⟩) (fun hHeld => ?_)
 refine rg_take 0 (some 47) (v := ?v10) rfl rfl (by kernel_rfl) (by kernel_rfl) (by kernel_rfl) (fun _ _ _ h => h) (by rfl) ?hy10 (by assumption) ?_
 case hy10 => intro W hSW; (try dsimp only at hSW); have z0 := hSW.2; have q0 := Nat.lt_of_lt_of_le hG3 hSW.1.size; have q1 := Nat.lt_of_lt_of_le hf3 hSW.1.size; have q2 := Nat.lt_of_lt_of_le hv3 hSW.1.size; have q3 := Nat.lt_of_lt_of_le hl3 hSW.1.size; have z2 := hSW.1.cell f2 hnf; have z3 := hSW.1.cell n2 hn3; have z9 := hSW.1.cell n3 hn3; have z4 := hSW.1.cell v3 hnv; have y0 := hSW.1.cell u0 hnb; have y1 := hSW.1.cell u1 hnb; have y2 := hSW.1.cell u2 hnb; have y3 := hSW.1.cell u3 hnb; have y4 := hSW.1.cell u4 hnb; have q4 := Nat.lt_of_lt_of_le hgw0 hSW.1.size; have r4 := hSW.1.cell v4 hnv; have r5 := hSW.1.cell x0 hnb2; have r6 := hSW.1.cell x1 hnb2; have r7 := hSW.1.cell x2 hnb2; have r8 := hSW.1.cell x3 hnb2; have r9 := hSW.1.cell x4 hnb2; have q5 := Nat.lt_of_lt_of_le hgw4 hSW.1.size; go_simp; (try with_reducible rfl)
 try simp only [Act.put, bP, bQ, bT]
 refine rg_take 1 (some 48) (v := ?v11) rfl rfl (by kernel_rfl) (by kernel_rfl) (by kernel_rfl) (fun _ _ _ h => h) (by rfl) ?hy11 (by assumption) ?_
 case hy11 => intro W hSW; (try dsimp only at hSW); have z0 := hSW.2; have q0 := Nat.lt_of_lt_of_le hG3 hSW.1.size; have q1 := Nat.lt_of_lt_of_le hf3 hSW.1.size; have q2 := Nat.lt_of_lt_of_le hv3 hSW.1.size; have q3 := Nat.lt_of_lt_of_le hl3 hSW.1.size; have z2 := hSW.1.cell f2 hnf; have z3 := hSW.1.cell n2 hn3; have z9 := hSW.1.cell n3 hn3; have z4 := hSW.1.cell v3 hnv; have y0 := hSW.1.cell u0 hnb; have y1 := hSW.1.cell u1 hnb; have y2 := hSW.1.cell u2 hnb; have y3 := hSW.1.cell u3 hnb; have y4 := hSW.1.cell u4 hnb; have q4 := Nat.lt_of_lt_of_le hgw0 hSW.1.size; have r4 := hSW.1.cell v4 hnv; have r5 := hSW.1.cell x0 hnb2; have r6 := hSW.1.cell x1 hnb2; have r7 := hSW.1.cell x2 hnb2; have r8 := hSW.1.cell x3 hnb2; have r9 := hSW.1.cell x4 hnb2; have q5 := Nat.lt_of_lt_of_le hgw4 hSW.1.size; go_simp; (try with_reducible rfl)
 try simp only [Act.put, bP, bQ, bT]
 refine rg_take 2 (some 49) (v := ?v12) rfl rfl (by kernel_rfl) (by kernel_rfl) (by kernel_rfl) (fun _ _ _ h => h) (by rfl) ?hy12 (by assumption) ?_
 case hy12 => intro W hSW; (try dsimp only at hSW); have z0 := hSW.2; have q0 := Nat.lt_of_lt_of_le hG3 hSW.1.size; have q1 := Nat.lt_of_lt_of_le hf3 hSW.1.size; have q2 := Nat.lt_of_lt_of_le hv3 hSW.1.size; have q3 := Nat.lt_of_lt_of_le hl3 hSW.1.size; have z2 := hSW.1.cell f2 hnf; have z3 := hSW.1.cell n2 hn3; have z9 := hSW.1.cell n3 hn3; have z4 := hSW.1.cell v3 hnv; have y0 := hSW.1.cell u0 hnb; have y1 := hSW.1.cell u1 hnb; have y2 := hSW.1.cell u2 hnb; have y3 := hSW.1.cell u3 hnb; have y4 := hSW.1.cell u4 hnb; have q4 := Nat.lt_of_lt_of_le hgw0 hSW.1.size; have r4 := hSW.1.cell v4 hnv; have r5 := hSW.1.cell x0 hnb2; have r6 := hSW.1.cell x1 hnb2; have r7 := hSW.1.cell x2 hnb2; have r8 := hSW.1.cell x3 hnb2; have r9 := hSW.1.cell x4 hnb2; have q5 := Nat.lt_of_lt_of_le hgw4 hSW.1.size; go_simp; (try with_reducible rfl)
 try simp only [Act.put, bP, bQ, bT]
 refine rg_take 3 (some 50) (v := ?v13) rfl rfl (by kernel_rfl) (by kernel_rfl) (by kernel_rfl) (fun _ _ _ h => h) (by rfl) ?hy13 (by assumption) ?_
 case hy13 => intro W hSW; (try dsimp only at hSW); have z0 := hSW.2; have q0 := Nat.lt_of_lt_of_le hG3 hSW.1.size; have q1 := Nat.lt_of_lt_of_le hf3 hSW.1.size; have q2 := Nat.lt_of_lt_of_le hv3 hSW.1.size; have q3 := Nat.lt_of_lt_of_le hl3 hSW.1.size; have z2 := hSW.1.cell f2 hnf; have z3 := hSW.1.cell n2 hn3; have z9 := hSW.1.cell n3 hn3; have z4 := hSW.1.cell v3 hnv; have y0 := hSW.1.cell u0 hnb; have y1 := hSW.1.cell u1 hnb; have y2 := hSW.1.cell u2 hnb; have y3 := hSW.1.cell u3 hnb; have y4 := hSW.1.cell u4 hnb; have q4 := Nat.lt_of_lt_of_le hgw0 hSW.1.size; have r4 := hSW.1.cell v4 hnv; have r5 := hSW.1.cell x0 hnb2; have r6 := hSW.1.cell x1 hnb2; have r7 := hSW.1.cell x2 hnb2; have r8 := hSW.1.cell x3 hnb2; have r9 := hSW.1.cell x4 hnb2; have q5 := Nat.lt_of_lt_of_le hgw4 hSW.1.size; go_simp; (try with_reducible rfl)
 try simp only [Act.put, bP, bQ, bT]
 refine rg_take 4 (some 51) (v := ?v14) rfl rfl (by kernel_rfl) (by kernel_rfl) (by kernel_rfl) (fun _ _ _ h => h) (by rfl) ?hy14 (by assumption) ?_
 case hy14 => intro W hSW; (try dsimp only at hSW); have z0 := hSW.2; have q0 := Nat.lt_of_lt_of_le hG3 hSW.1.size; have q1 := Nat.lt_of_lt_of_le hf3 hSW.1.size; have q2 := Nat.lt_of_lt_of_le hv3 hSW.1.size; have q3 := Nat.lt_of_lt_of_le hl3 hSW.1.size; have z2 := hSW.1.cell f2 hnf; have z3 := hSW.1.cell n2 hn3; have z9 := hSW.1.cell n3 hn3; have z4 := hSW.1.cell v3 hnv; have y0 := hSW.1.cell u0 hnb; have y1 := hSW.1.cell u1 hnb; have y2 := hSW.1.cell u2 hnb; have y3 := hSW.1.cell u3 hnb; have y4 := hSW.1.cell u4 hnb; have q4 := Nat.lt_of_lt_of_le hgw0 hSW.1.size; have r4 := hSW.1.cell v4 hnv; have r5 := hSW.1.cell x0 hnb2; have r6 := hSW.1.cell x1 hnb2; have r7 := hSW.1.cell x2 hnb2; have r8 := hSW.1.cell x3 hnb2; have r9 := hSW.1.cell x4 hnb2; have q5 := Nat.lt_of_lt_of_le hgw4 hSW.1.size; go_simp; (try with_reducible rfl)
 try simp only [Act.put, bP, bQ, bT]
 refine rg_take 5 (some 52) (v := ?v15) rfl rfl (by kernel_rfl) (by kernel_rfl) (by kernel_rfl) (fun _ _ _ h => h) (by rfl) ?hy15 (by assumption) ?_
 case hy15 => intro W hSW; (try dsimp only at hSW); have z0 := hSW.2; have q0 := Nat.lt_of_lt_of_le hG3 hSW.1.size; have q1 := Nat.lt_of_lt_of_le hf3 hSW.1.size; have q2 := Nat.lt_of_lt_of_le hv3 hSW.1.size; have q3 := Nat.lt_of_lt_of_le hl3 hSW.1.size; have z2 := hSW.1.cell f2 hnf; have z3 := hSW.1.cell n2 hn3; have z9 := hSW.1.cell n3 hn3; have z4 := hSW.1.cell v3 hnv; have y0 := hSW.1.cell u0 hnb; have y1 := hSW.1.cell u1 hnb; have y2 := hSW.1.cell u2 hnb; have y3 := hSW.1.cell u3 hnb; have y4 := hSW.1.cell u4 hnb; have q4 := Nat.lt_of_lt_of_le hgw0 hSW.1.size; have r4 := hSW.1.cell v4 hnv; have r5 := hSW.1.cell x0 hnb2; have r6 := hSW.1.cell x1 hnb2; have r7 := hSW.1.cell x2 hnb2; have r8 := hSW.1.cell x3 hnb2; have r9 := hSW.1.cell x4 hnb2; have q5 := Nat.lt_of_lt_of_le hgw4 hSW.1.size; go_simp; (try with_reducible rfl)
 try simp only [Act.put, bP, bQ, bT]
 refine rg_take 6 (some 53) (v := ?v16) rfl rfl (by kernel_rfl) (by kernel_rfl) (by kernel_rfl) (fun _ _ _ h => h) (by rfl) ?hy16 (by assumption) ?_
 case hy16 => intro W hSW; (try dsimp only at hSW); have z0 := hSW.2; have q0 := Nat.lt_of_lt_of_le hG3 hSW.1.size; have q1 := Nat.lt_of_lt_of_le hf3 hSW.1.size; have q2 := Nat.lt_of_lt_of_le hv3 hSW.1.size; have q3 := Nat.lt_of_lt_of_le hl3 hSW.1.size; have z2 := hSW.1.cell f2 hnf; have z3 := hSW.1.cell n2 hn3; have z9 := hSW.1.cell n3 hn3; have z4 := hSW.1.cell v3 hnv; have y0 := hSW.1.cell u0 hnb; have y1 := hSW.1.cell u1 hnb; have y2 := hSW.1.cell u2 hnb; have y3 := hSW.1.cell u3 hnb; have y4 := hSW.1.cell u4 hnb; have q4 := Nat.lt_of_lt_of_le hgw0 hSW.1.size; have r4 := hSW.1.cell v4 hnv; have r5 := hSW.1.cell x0 hnb2; have r6 := hSW.1.cell x1 hnb2; have r7 := hSW.1.cell x2 hnb2; have r8 := hSW.1.cell x3 hnb2; have r9 := hSW.1.cell x4 hnb2; have q5 := Nat.lt_of_lt_of_le hgw4 hSW.1.size; go_simp; (try with_reducible rfl)
 try simp only [Act.put, bP, bQ, bT]
 refine rg_take 7 (some 54) (v := ?v17) rfl rfl (by kernel_rfl) (by kernel_rfl) (by kernel_rfl) (fun _ _ _ h => h) (by rfl) ?hy17 (by assumption) ?_
 case hy17 => intro W hSW; (try dsimp only at hSW); have z0 := hSW.2; have q0 := Nat.lt_of_lt_of_le hG3 hSW.1.size; have q1 := Nat.lt_of_lt_of_le hf3 hSW.1.size; have q2 := Nat.lt_of_lt_of_le hv3 hSW.1.size; have q3 := Nat.lt_of_lt_of_le hl3 hSW.1.size; have z2 := hSW.1.cell f2 hnf; have z3 := hSW.1.cell n2 hn3; have z9 := hSW.1.cell n3 hn3; have z4 := hSW.1.cell v3 hnv; have y0 := hSW.1.cell u0 hnb; have y1 := hSW.1.cell u1 hnb; have y2 := hSW.1.cell u2 hnb; have y3 := hSW.1.cell u3 hnb; have y4 := hSW.1.cell u4 hnb; have q4 := Nat.lt_of_lt_of_le hgw0 hSW.1.size; have r4 := hSW.1.cell v4 hnv; have r5 := hSW.1.cell x0 hnb2; have r6 := hSW.1.cell x1 hnb2; have r7 := hSW.1.cell x2 hnb2; have r8 := hSW.1.cell x3 hnb2; have r9 := hSW.1.cell x4 hnb2; have q5 := Nat.lt_of_lt_of_le hgw4 hSW.1.size; go_simp; (try with_reducible rfl)
 try simp only [Act.put, bP, bQ, bT]
 refine rg_take 8 (some 55) (v := ?v18) rfl rfl (by kernel_rfl) (by kernel_rfl) (by kernel_rfl) (fun _ _ _ h => h) (by rfl) ?hy18 (by assumption) ?_
 case hy18 => intro W hSW; (try dsimp only at hSW); have z0 := hSW.2; have q0 := Nat.lt_of_lt_of_le hG3 hSW.1.size; have q1 := Nat.lt_of_lt_of_le hf3 hSW.1.size; have q2 := Nat.lt_of_lt_of_le hv3 hSW.1.size; have q3 := Nat.lt_of_lt_of_le hl3 hSW.1.size; have z2 := hSW.1.cell f2 hnf; have z3 := hSW.1.cell n2 hn3; have z9 := hSW.1.cell n3 hn3; have z4 := hSW.1.cell v3 hnv; have y0 := hSW.1.cell u0 hnb; have y1 := hSW.1.cell u1 hnb; have y2 := hSW.1.cell u2 hnb; have y3 := hSW.1.cell u3 hnb; have y4 := hSW.1.cell u4 hnb; have q4 := Nat.lt_of_lt_of_le hgw0 hSW.1.size; have r4 := hSW.1.cell v4 hnv; have r5 := hSW.1.cell x0 hnb2; have r6 := hSW.1.cell x1 hnb2; have r7 := hSW.1.cell x2 hnb2; have r8 := hSW.1.cell x3 hnb2; have r9 := hSW.1.cell x4 hnb2; have q5 := Nat.lt_of_lt_of_le hgw4 hSW.1.size; go_simp; (try with_reducible rfl)
 try simp only [Act.put, bP, bQ, bT]
 refine rg_take 10 (some 57) (v := ?v19) rfl rfl (by kernel_rfl) (by kernel_rfl) (by kernel_rfl) (fun _ _ _ h => h) (by rfl) ?hy19 (by assumption) ?_
 case hy19 => intro W hSW; (try dsimp only at hSW); have z0 := hSW.2; have q0 := Nat.lt_of_lt_of_le hG3 hSW.1.size; have q1 := Nat.lt_of_lt_of_le hf3 hSW.1.size; have q2 := Nat.lt_of_lt_of_le hv3 hSW.1.size; have q3 := Nat.lt_of_lt_of_le hl3 hSW.1.size; have z2 := hSW.1.cell f2 hnf; have z3 := hSW.1.cell n2 hn3; have z9 := hSW.1.cell n3 hn3; have z4 := hSW.1.cell v3 hnv; have y0 := hSW.1.cell u0 hnb; have y1 := hSW.1.cell u1 hnb; have y2 := hSW.1.cell u2 hnb; have y3 := hSW.1.cell u3 hnb; have y4 := hSW.1.cell u4 hnb; have q4 := Nat.lt_of_lt_of_le hgw0 hSW.1.size; have r4 := hSW.1.cell v4 hnv; have r5 := hSW.1.cell x0 hnb2; have r6 := hSW.1.cell x1 hnb2; have r7 := hSW.1.cell x2 hnb2; have r8 := hSW.1.cell x3 hnb2; have r9 := hSW.1.cell x4 hnb2; have q5 := Nat.lt_of_lt_of_le hgw4 hSW.1.size; go_simp; (try with_reducible rfl)
 try simp only [Act.put, bP, bQ, bT]
 refine rg_take 11 (some 58) (v := ?v20) rfl rfl (by kernel_rfl) (by kernel_rfl) (by kernel_rfl) (fun _ _ _ h => h) (by rfl) ?hy20 (by assumption) ?_
 case hy20 => intro W hSW; (try dsimp only at hSW); have z0 := hSW.2; have q0 := Nat.lt_of_lt_of_le hG3 hSW.1.size; have q1 := Nat.lt_of_lt_of_le hf3 hSW.1.size; have q2 := Nat.lt_of_lt_of_le hv3 hSW.1.size; have q3 := Nat.lt_of_lt_of_le hl3 hSW.1.size; have z2 := hSW.1.cell f2 hnf; have z3 := hSW.1.cell n2 hn3; have z9 := hSW.1.cell n3 hn3; have z4 := hSW.1.cell v3 hnv; have y0 := hSW.1.cell u0 hnb; have y1 := hSW.1.cell u1 hnb; have y2 := hSW.1.cell u2 hnb; have y3 := hSW.1.cell u3 hnb; have y4 := hSW.1.cell u4 hnb; have q4 := Nat.lt_of_lt_of_le hgw0 hSW.1.size; have r4 := hSW.1.cell v4 hnv; have r5 := hSW.1.cell x0 hnb2; have r6 := hSW.1.cell x1 hnb2; have r7 := hSW.1.cell x2 hnb2; have r8 := hSW.1.cell x3 hnb2; have r9 := hSW.1.cell x4 hnb2; have q5 := Nat.lt_of_lt_of_le hgw4 hSW.1.size; go_simp; (try with_reducible rfl)
 try simp only [Act.put, bP, bQ, bT]
 refine rg_take 12 (some 59) (v := ?v21) rfl rfl (by kernel_rfl) (by kernel_rfl) (by kernel_rfl) (fun _ _ _ h => h) (by rfl) ?hy21 (by assumption) ?_
 case hy21 => intro W hSW; (try dsimp only at hSW); have z0 := hSW.2; have q0 := Nat.lt_of_lt_of_le hG3 hSW.1.size; have q1 := Nat.lt_of_lt_of_le hf3 hSW.1.size; have q2 := Nat.lt_of_lt_of_le hv3 hSW.1.size; have q3 := Nat.lt_of_lt_of_le hl3 hSW.1.size; have z2 := hSW.1.cell f2 hnf; have z3 := hSW.1.cell n2 hn3; have z9 := hSW.1.cell n3 hn3; have z4 := hSW.1.cell v3 hnv; have y0 := hSW.1.cell u0 hnb; have y1 := hSW.1.cell u1 hnb; have y2 := hSW.1.cell u2 hnb; have y3 := hSW.1.cell u3 hnb; have y4 := hSW.1.cell u4 hnb; have q4 := Nat.lt_of_lt_of_le hgw0 hSW.1.size; have r4 := hSW.1.cell v4 hnv; have r5 := hSW.1.cell x0 hnb2; have r6 := hSW.1.cell x1 hnb2; have r7 := hSW.1.cell x2 hnb2; have r8 := hSW.1.cell x3 hnb2; have r9 := hSW.1.cell x4 hnb2; have q5 := Nat.lt_of_lt_of_le hgw4 hSW.1.size; go_simp; (try with_reducible rfl)
 try simp only [Act.put, bP, bQ, bT]
 refine rg_take 13 (some 60) (v := ?v22) rfl rfl (by kernel_rfl) (by kernel_rfl) (by kernel_rfl) (fun _ _ _ h => h) (by rfl) ?hy22 (by assumption) ?_
 case hy22 => intro W hSW; (try dsimp only at hSW); have z0 := hSW.2; have q0 := Nat.lt_of_lt_of_le hG3 hSW.1.size; have q1 := Nat.lt_of_lt_of_le hf3 hSW.1.size; have q2 := Nat.lt_of_lt_of_le hv3 hSW.1.size; have q3 := Nat.lt_of_lt_of_le hl3 hSW.1.size; have z2 := hSW.1.cell f2 hnf; have z3 := hSW.1.cell n2 hn3; have z9 := hSW.1.cell n3 hn3; have z4 := hSW.1.cell v3 hnv; have y0 := hSW.1.cell u0 hnb; have y1 := hSW.1.cell u1 hnb; have y2 := hSW.1.cell u2 hnb; have y3 := hSW.1.cell u3 hnb; have y4 := hSW.1.cell u4 hnb; have q4 := Nat.lt_of_lt_of_le hgw0 hSW.1.size; have r4 := hSW.1.cell v4 hnv; have r5 := hSW.1.cell x0 hnb2; have r6 := hSW.1.cell x1 hnb2; have r7 := hSW.1.cell x2 hnb2; have r8 := hSW.1.cell x3 hnb2; have r9 := hSW.1.cell x4 hnb2; have q5 := Nat.lt_of_lt_of_le hgw4 hSW.1.size; go_simp; (try with_reducible rfl)
 try simp only [Act.put, bP, bQ, bT]
 refine rg_one 9 rfl (by kernel_rfl) (by rfl) (fun K hK => ?_)
 go_simp
 refine (hwi.out f.env u xen tu (by omega) _ (belT hb30.out ((Below.refl _ _).drew)) (henv.out _ (belT hb30.out ((Below.refl _ _).drew))) (hru.out _ (belT hb30.out ((Below.refl _ _).drew)))).mono ?_
 rintro e9 w9 ⟨p9, rfl, he9, hb9⟩
 have hc9 : Below W3.heap.size W3 w9 := belT ((Below.refl _ _).drew) hb9
 refine hK.out _ _ ⟨Bar.of_below hc9, carry hc9 hG3 c3⟩ (fun hH9 => ?_)
 clear hK K
 try simp only [Act.put, bP, bQ, bT]
 refine rg_one 14 rfl (by kernel_rfl) (by rfl) (fun K hK => ?_)
 go_simp
 refine (hwi.out (.cons u f.env) k p9 te (by rw [RV.cons_len]; omega) w9 (belT hb30.out hc9) he9 (hrg.out _ (belT hb30.out hc9))).mono ?_
 rintro e7 w7 ⟨p7, rfl, he7, hb7⟩
 have hc7 : Below W3.heap.size W3 w7 := belT (hc9) hb7
 refine hK.out _ _ ⟨Bar.of_below hc7, carry hc7 hG3 c3⟩ (fun hH7 => ?_)
 clear hK K
 try simp only [Act.put, bP, bQ, bT]
 refine rg_one 15 rfl (by kernel_rfl) (by rfl) (fun K hK => ?_)
 go_simp
 refine (hen.out _ p7 xc w7 (belT hb30.out hc7) he7).mono ?_
 rintro e8 w8 ⟨rfl, hf, hb8, c38⟩
 refine hK.out _ _ ⟨(Bar.of_below hc7).trans hb8 fun _ _ h => h, c38⟩ (fun hH8 => ?_)
 clear hK K
 try simp only [Act.put, bP, bQ, bT]
 refine wpAnyH_done (by kernel_rfl) ?_ _
 go_wp2_with fail
 all_goals go_end0
 all_goals exact ⟨rfl, hf⟩
end Go.Proofs.Ytnjalpcmjkahkaa
