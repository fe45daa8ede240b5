/- The reference's engine for targets: a value for any frame; a step. -/
import Derived.Test.YtnjalpcmjkahkaaZt28
import Derived.Test.YtnjalpcmjkahkaaZt40
import Derived.Test.YtnjalpcmjkahkaaZt41
import Derived.Test.YtnjalpcmjkahkaaZt42
import Derived.Test.YtnjalpcmjkahkaaZt43
set_option maxRecDepth 100000
set_option maxHeartbeats 8000000
namespace Go.Proofs.Ytnjalpcmjkahkaa
open Go.RowKit
set_option linter.unusedVariables false
set_option linter.unusedSimpArgs false
theorem back17_any (B G : Nat) (tv sv : Value) (c : Ec) (l : List Fx) (ts : List Tg) (fur : List Int) (w : World) (stk : List NF) (f : NF) (x : Fx) (v : NV) (h : Hid (ERc B G tv sv c l w)) (hce : Hid (c.ev = false)) (hs : Hid (StX ts w stk l)) (hf : Hid (FX ts w f x)) (hv : Hid (VR w v (.inl c.th))) (ht : Hid (TvR B G w tv ts)) (hl : l.length ≤ 4096)
  (hkid : KidIn ts) {K : Nat} (hff : f.val.er.fit ts.length K) (hvf : v.er.fit ts.length K) (hfs : f.val.sc ts fur) :
  Calls Try.prog 35 #[.pointer (some ⟨G, 0, none⟩), x.val] w (NxP c.w0 ts B G tv (nBack ts f v stk)) := by
 obtain ⟨xst, xnd, xen, y⟩ := x
 obtain ⟨fst, fnd, env, u⟩ := f
 obtain ⟨⟨hn0, hn1⟩, hcase⟩ := hf.out
 dsimp only at hn0 hn1 hcase hff hfs
 obtain ⟨i, rfl⟩ : ∃ i : Nat, xnd = i := ⟨xnd.toNat, by omega⟩
 have hi : i < ts.length := by omega
 rcases hcase with ⟨rfl, rfl, ⟨k5, k12⟩, hst, henv⟩ | ⟨rfl, rfl, hk, hu⟩ | ⟨rfl, rfl, hu⟩
 ·have e : nBack ts ⟨0, i, env, u⟩ v stk = nFirst (ndT ts i) ⟨0, i, env, .num 0⟩ v stk := rfl
  rw [e]
  have henv := Lib.hid henv
  have hc8 : (ndT ts i).k = 5 ∨ (ndT ts i).k = 6 ∨ (ndT ts i).k = 7 ∨ (ndT ts i).k = 8 ∨ (ndT ts i).k = 9 ∨ (ndT ts i).k = 10 ∨ (ndT ts i).k = 11 ∨ (ndT ts i).k = 12 := by omega
  rcases hc8 with hk | hk | hk | hk | hk | hk | hk | hk
  all_goals rw [hk] at hst
  ·obtain rfl : xst = 0 := hst
   exact back_arg B G tv sv c l ts w stk v i xen y h hs hv ht hi hl env henv hk
  ·obtain rfl : xst = 2 := hst
   exact back_let B G tv sv c l ts w stk v i xen y h hs hv ht hi hl env henv hk
  ·obtain rfl : xst = 3 := hst
   exact back_if B G tv sv c l ts w stk v i xen y h hs hv ht hi hl env henv hk
  ·obtain rfl : xst = 4 := hst
   exact back_left B G tv sv c l ts w stk v i xen y h hs hv ht hi hl env henv hk
  ·obtain rfl : xst = 8 := hst
   exact back_ret B G tv sv c l ts w stk v i xen y h hs hv ht hi hl env henv hk
  ·obtain rfl : xst = 9 := hst
   exact back_opk B G tv sv c l ts w stk v i xen y h hs hv ht hi hl env henv hk
  ·obtain rfl : xst = 11 := hst
   exact back_bind B G tv sv c l ts w stk v i xen y h hs hv ht hi hl env henv hk
  ·obtain rfl : xst = 12 := hst
   exact back_case B G tv sv c l ts w stk v i xen y h hs hv ht hi hl env henv hk
 ·have e : nBack ts ⟨1, i, env, u⟩ v stk = nSecond (ndT ts i) ⟨1, i, .nil, u⟩ v stk := rfl
  rw [e]
  rcases hk with ⟨hk, rfl⟩ | ⟨hk, rfl⟩
  ·rcases vr_num hv.out with ⟨b, rfl, hb⟩ | ⟨hz, hn, _⟩
   ·rcases vr_num hu with ⟨a, rfl, ha⟩ | ⟨hz, _, hn⟩
    ·exact back_prim_n B G tv sv c l ts w stk _ i xen y h hs hv ht hi hl hk a b rfl hb ha ((hkid.at_ ⟨hn0, hn1⟩).1 hk) hff hvf
    ·exact back_prim_u B G tv sv c l ts w stk _ i xen y h hs hv ht hi hl u (Lib.hid hu) hk b rfl hb hz hn
   ·exact back_prim_v B G tv sv c l ts w stk v i xen y h hs hv ht hi hl u (Lib.hid hu) hk hz hn
  ·exact back_op B G tv sv c l ts w stk v i xen y h hs hv ht hi hl u (Lib.hid hu) hk
 ·have e : nBack ts ⟨2, fnd, env, u⟩ v stk = nApply ts u v stk := rfl
  rw [e]
  exact back_call B G tv sv c l ts w stk v i xen y h hs hv ht hi hl u (Lib.hid hu) hce fur hff hfs
theorem pop_er {B G : Nat} {tv sv sv' : Value} {c : Ec} {l : List Fx} {x : Fx} {w : World} {stk : List NF} {f : NF} {v : NV} {ts : List Tg} {g cp : Nat} (h : ERc B G tv sv c (l ++ [x]) w) (hs : StX ts w stk l) (hf : FX ts w f x) (hv : VR w v (.inl c.th)) (ht : TvR B G w tv ts)
  (hsv : sv = .slice (some ⟨g, 0, none⟩) (l.length + 1) cp) (hsv' : sv' = .slice (some ⟨g, 0, none⟩) l.length cp) (ho : OwnX B w sv' l) {W : World} (hb : Below w.heap.size w W) :
  ERc B G tv sv' c l (W.setCell ⟨G, 1, none⟩ sv') ∧ StX ts (W.setCell ⟨G, 1, none⟩ sv') stk l ∧ FX ts (W.setCell ⟨G, 1, none⟩ sv') f x ∧ VR (W.setCell ⟨G, 1, none⟩ sv') v (.inl c.th) ∧ TvR B G (W.setCell ⟨G, 1, none⟩ sv') tv ts ∧ Bar (Bq G) W (W.setCell ⟨G, 1, none⟩ sv') := by
 have hB : Bar (Bq G) W (W.setCell ⟨G, 1, none⟩ sv') := Bar.set (S := Bq G) ⟨G, 1, none⟩ _ rfl
 have hob : ∀ k, sv'.ownBlock = some k → sv.ownBlock = some k := fun k hk => by subst hsv hsv'; exact hk
 have h1 := h.below hb
 have hne : ∀ k, sv'.ownBlock = some k → ¬ Bq G k := fun k hk e => by
  have := (own_ltX ho k hk).1
  have e : k = G := e
  have := h.gB; omega
 refine ⟨⟨h1.ec.setS sv', Bar.own hB (ho.below hb) hne, h1.gB, by have := h1.bl; simp; omega, fun k hk => h1.kS k (hob k hk), h1.dn⟩, (hs.below hb).bar (bq_bp (sv := sv) hB) h1.vf, (hf.below hb).bar (bq_bp (sv := sv) hB) h1.vf, (hv.below hb).bar (bq_bp (sv := sv) hB) h1.vf, ?_, hB⟩
 obtain ⟨T, off, cq, e, hTB, hTG, hTw, hT⟩ := ht
 have hT' := hT.below hb hTw
 have hTw' := Nat.lt_of_lt_of_le hTw hb.size
 have hn : ¬ Bq G T := hTG
 exact ⟨T, off, cq, e, hTB, hTG, Nat.lt_of_lt_of_le hTw' hB.size, fun i hi => by
  obtain ⟨b0, b1, b2, b3, b4, b5, b6, b7, b8⟩ := hT' i hi
  exact ⟨hB.cell b0 hn, hB.cell b1 hn, hB.cell b2 hn, hB.cell b3 hn, hB.cell b4 hn, hB.cell b5 hn, hB.cell b6 hn, hB.cell b7 hn, hB.cell b8 hn⟩⟩
theorem step17_ev (B G : Nat) (tv sv : Value) (c : Ec) (l : List Fx) (ts : List Tg) (w : World) (stk : List NF) (n : Int) (env : NV)
  (h : Hid (ERc B G tv sv c l w)) (hv : Hid (MXv ts c l w (.ev stk n env))) (ht : Hid (TvR B G w tv ts)) (hn : 0 ≤ n ∧ n < ts.length) (hkk : KK ts) (hl : l.length ≤ 4096) :
  Calls Try.prog 22 #[.pointer (some ⟨G, 0, none⟩)] w (NxP c.w0 ts B G tv (nStep ts (.ev stk n env))) := by
 have hns := Lib.hid fun (W : World) (hb : Below w.heap.size w W) => begin_any B G tv sv c l ts W stk n env (Lib.hid (h.out.below hb)) (Lib.hid (hv.out.below hb)) (Lib.hid (ht.out.below hb)) hn hkk hl
 have e : nStep ts (.ev stk n env) = nNode (ndT ts n) stk n env := rfl
 rw [e]
 obtain ⟨R, hR⟩ : ∃ R, nNode (ndT ts n) stk n env = R := ⟨_, rfl⟩
 rw [hR] at hns ⊢
 have hG := h.out.ec.lt
 have c2 := h.out.ec.c2
 rw [hv.out.2.1] at c2
 clear h hv ht hR e
 go_enter Try.func22, Try.ntmps22
 go_wp2_with fail
 refine (hns.out _ (by (repeat' (first | (with_reducible first | exact bR _ _ | assumption | apply bS | apply bA | apply bD | apply bN | exact bL _) | (simp; done) | (simp; omega) | omega | exact bL _)))).mono ?_
 rintro e w1 hf
 have he := hf.1
 subst he
 have hf := Lib.hid hf
 clear hns
 go_wp2_with fail
 all_goals go_end0
 all_goals exact hf.out
theorem step17_gv (B G : Nat) (tv sv : Value) (c : Ec) (l : List Fx) (ts : List Tg) (fur : List Int) (w : World) (stk : List NF) (f : NF) (v : NV)
  (h : Hid (ERc B G tv sv c l w)) (hv : Hid (MXv ts c l w (.gv (f :: stk) v))) (ht : Hid (TvR B G w tv ts)) (hl : l.length ≤ 4096) (hkid : KidIn ts) {K : Nat} (hff : f.val.er.fit ts.length K) (hvf : v.er.fit ts.length K) (hfs : f.val.sc ts fur) :
  Calls Try.prog 22 #[.pointer (some ⟨G, 0, none⟩)] w (NxP c.w0 ts B G tv (nStep ts (.gv (f :: stk) v))) := by
 obtain ⟨he, hhv, ⟨l', x, rfl, hfr, hst⟩, hvl⟩ := hv.out
 obtain ⟨g, cp, hsv, hcp, hgB, hgw, ⟨x0, x1, x2, x3, x4, x5, x6, x7, x8, x9⟩, hown⟩ := OwnX.pop h.out.own
 have hG := h.out.ec.lt
 have hGB := h.out.gB
 have c1 := h.out.ec.c1
 have c2 := h.out.ec.c2
 have hfz := h.out.ec.fz
 rw [hhv] at c2
 have hl' : l'.length ≤ 4096 := by simp at hl; omega
 have hpop := Lib.hid fun (W : World) (hb : Below w.heap.size w W) => pop_er h.out hst hfr hvl ht.out hsv rfl hown hb
 have hback := Lib.hid fun (W : World) (sv : Value) (h : ERc B G tv sv c l' W) (h1 : StX ts W stk l') (h2 : FX ts W f x) (h3 : VR W v (.inl c.th)) (h4 : TvR B G W tv ts) => back17_any B G tv sv c l' ts fur W stk f x v (Lib.hid h) (Lib.hid hhv) (Lib.hid h1) (Lib.hid h2) (Lib.hid h3) (Lib.hid h4) hl' hkid hff hvf hfs
 obtain ⟨p, hp⟩ : ∃ p, l'.length = p := ⟨_, rfl⟩
 have hw : IntKind.i64.wrap (p : Int) = p := IntWalk.i64_in _ (by omega)
 have hw1 : IntKind.i64.wrap ((p : Int) + 1 - 1) = p := (congrArg IntKind.i64.wrap (by omega)).trans hw
 have hp0 : (0 : Int) ≤ (p : Int) := by omega
 have hp1 : (p : Int) < (p : Int) + 1 := by omega
 have hpc : (p : Int) ≤ (cp : Int) := by omega
 have hpc2 : p ≤ cp := by omega
 rw [hp] at hsv x0 x1 x2 x3 x4 x5 x6 x7 x8 x9 hpop
 simp only [Nat.zero_add] at x0 x1 x2 x3 x4 x5 x6 x7 x8 x9
 rw [hsv] at c1
 have e : nStep ts (.gv (f :: stk) v) = nBack ts f v stk := rfl
 rw [e]
 obtain ⟨R, hR⟩ : ∃ R, nBack ts f v stk = R := ⟨_, rfl⟩
 rw [hR] at hback ⊢
 obtain ⟨xst, xnd, xen, ⟨y0, y1, y2, y3, y4, y5⟩⟩ := x
 dsimp only at x0 x1 x2 x3 x4 x5 x6 x7 x8 x9
 unfold Fx.val at hback
 dsimp only at hback
 clear h hv ht e hfr hst hvl hown hp hsv hl hl' hR
 go_enter Try.func22, Try.ntmps22
 go_wp2_with fail
 obtain ⟨h1, h2, h3, h4, h5, -⟩ := hpop.out w (Below.refl _ _)
 have hal := below_alc (w.setCell ⟨G, 1, none⟩ (.slice (some ⟨g, 0, none⟩) p cp)) (.cells #[.int .i64 xst, .int .i64 xnd, .pointer xen, .int .i64 y0, .int .i64 y1, .int .i64 y2, .pointer y3, .slice none 0 0, .pointer y4, .pointer y5] 91)
 refine (hback.out _ _ (h1.below hal) (h2.below hal) (h3.below hal) (h4.below hal) (h5.below hal)).mono ?_
 rintro e w1 hf
 have he := hf.1
 subst he
 have hf := Lib.hid hf
 clear hback hpop h1 h2 h3 h4 h5 hal
 go_wp2_with fail
 all_goals go_end0
 all_goals exact hf.out
open Go.RowKit
theorem step17_any (w0 : Gh) (B G : Nat) (tv : Value) (ts : List Tg) (fur : List Int) (m : RM) (m' : NM) (w : World) (h : Hid (MX w0 ts B G tv m' w)) (ht : Hid (TvR B G w tv ts)) (hkk : KK ts) (hkid : KidIn ts) (hS : MSim ts fur m m') {K : Nat} (hfit : RM.fit ts K m) (hsl : rLen m ≤ 4096) (hno : rOver m = none) :
  Calls Try.prog 22 #[.pointer (some ⟨G, 0, none⟩)] w (NxP w0 ts B G tv (nStep ts m')) := by
 obtain ⟨sv, c, l, rfl, hx, hv⟩ := h.out
 cases m' with
 | ev s' n' e' =>
  cases m with
  | ev s n e =>
   obtain ⟨rfl, rfl, h1, h2, h3⟩ := hS
   have hl : l.length ≤ 4096 := by rw [hv.2.2.2.1.len, ← h3.len]; exact hsl
   exact step17_ev B G tv sv c l ts w s' n e' (Lib.hid (hx.er hv.1)) (Lib.hid hv) ht hfit.1 hkk hl
  | gv _ _ => exact hS.elim
  | en _ _ => exact hS.elim
 | gv s' v' =>
  cases m with
  | ev _ _ _ => exact hS.elim
  | en _ _ => exact hS.elim
  | gv s v =>
   obtain ⟨rfl, h1, h2⟩ := hS
   cases s' with
   | nil =>
    cases s with
    | nil => cases hno
    | cons _ _ => exact h2.elim
   | cons f' s' =>
    cases s with
    | nil => exact h2.elim
    | cons f s =>
     obtain ⟨hf, hk⟩ := h2
     have hl : l.length ≤ 4096 := by
      rw [hv.2.2.1.len]
      have := hk.len
      have hsl : s.length + 1 ≤ 4096 := hsl
      rw [List.length_cons]; omega
     exact step17_gv B G tv sv c l ts fur w s' f' v' (Lib.hid (hx.er hv.1)) (Lib.hid hv) ht hl hkid (K := K) (by rw [← hf.val]; exact (hfit.2 f (.head _)).val) hfit.1 hf.vs
 | en k n =>
  cases m with
  | ev _ _ _ => exact hS.elim
  | gv _ _ => exact hS.elim
  | en _ _ => cases hno
theorem MX.bs {w0 : Gh} {ts : List Tg} {B G : Nat} {tv : Value} {m : NM} {w : World} (h : MX w0 ts B G tv m w) : Bar (fun k => ¬ w0.2 k) w0.1 w := by
 obtain ⟨sv, c, l, rfl, h1, h2⟩ := h
 exact h1.ec.bs
theorem rRun_far {ts : List Tg} {fur : List Int} {m : RM} (hm : rOver m = none) (hl : 4096 < rLen m) (q made : Nat) : rRun ts fur q made m = ((4, 0), made) := by
 cases q with
 | zero => exact rRun_zero hm
 | succ q => exact rRun_deep hm hl
def LoX (w0 : Gh) (B G : Nat) (tv : Value) (ts : List Tg) (fur : List Int) (fuel : Nat) (R : (Int × Int) × Nat) (v : Value) (w : World) : Prop :=
 ∃ (j : Nat) (m : RM) (m' : NM), v = .int .i64 j ∧ j ≤ fuel ∧ Hid (MX w0 ts B G tv m' w) ∧ Hid (MSim ts fur m m') ∧ Hid (rLen m ≤ 4096) ∧ Hid (∀ k n, m' ≠ .en k n) ∧ Hid (RM.fit ts (2 * j) m) ∧ Hid (rRun ts fur (fuel - j) j m = R)
theorem RunT_nil (p : Option Addr) (c : Nat) (w : World) (fuel : Int) :
  Calls Try.prog 9 #[.slice p 0 c, .int .i64 fuel] w (RunP w (((0, 0), 0), 2100)) := by
 go_enter Try.func9, Try.ntmps9
 go_wp2_with fail
 refine (rmay_nil p c _).mono ?_
 rintro e1 w1 ⟨rfl, hb1⟩
 obtain ⟨hc1, hf1⟩ := bcell hb1
 have hz1_0 : w.heap.size < w1.heap.size := by have := hb1.size; (try simp at this); omega
 have hbw : Below w.heap.size w w1 := belT (by (repeat' (first | (with_reducible first | exact bR _ _ | assumption | apply bS | apply bA | apply bD | apply bN | exact bL _) | (simp; done) | (simp; omega) | omega | exact bL _))) hb1
 have xl : w.heap.size < w1.heap.size := Nat.lt_of_lt_of_le (by simp) hb1.size
 go_wp2_with fail
 exact bodyPost_ret (v := runR (((0, 0), 0), 2100)) (by simp [results, Try.results9, go_sem, runR, *]) rfl ⟨rfl, by (repeat' (first | (with_reducible first | exact bR _ _ | assumption | apply bS | apply bA | apply bD | apply bN | exact bL _) | (simp; done) | (simp; omega) | omega | exact bL _))⟩
theorem RunT_bad (T off ct : Nat) (ts : List Tg) (w : World) (fuel : Int) (h : Hid (TgSl w T off ts)) (hT : T < w.heap.size) (hl : ts.length ≤ 140737488351232) (hm : mayV ts = false ∨ (mayV ts = true ∧ (fuel < 0 ∨ 1048576 < fuel))) :
  Calls Try.prog 9 #[.slice (some ⟨T, off, none⟩) ts.length ct, .int .i64 fuel] w (RunP w (((0, 0), 0), 2100)) := by
 have hmay := Lib.hid fun (W : World) (hb : Below w.heap.size w W) => rmay_any T off ct ts W (Lib.hid (h.out.below hb hT)) (Nat.lt_of_lt_of_le hT hb.size) hl
 have hc : mayV ts = false ∨ (mayV ts = true ∧ decide (fuel < 0) = true) ∨ (mayV ts = true ∧ decide (fuel < 0) = false ∧ decide (1048576 < fuel) = true) := by
  rcases hm with h | ⟨h, h2⟩
  ·exact .inl h
  ·by_cases h0 : fuel < 0
   ·exact .inr (.inl ⟨h, decide_eq_true h0⟩)
   ·exact .inr (.inr ⟨h, decide_eq_false h0, decide_eq_true (by omega)⟩)
 clear hm
 rcases hc with hm | ⟨hm, h1⟩ | ⟨hm, h1, h2⟩
 all_goals
  rw [hm] at hmay
  clear hm
  go_enter Try.func9, Try.ntmps9
  go_wp2_with fail
  refine (hmay.out _ (by (repeat' (first | (with_reducible first | exact bR _ _ | assumption | apply bS | apply bA | apply bD | apply bN | exact bL _) | (simp; done) | (simp; omega) | omega | exact bL _)))).mono ?_
  rintro e1 w1 ⟨rfl, hb1⟩
  obtain ⟨hc1, hf1⟩ := bcell hb1
  have hz1_0 : w.heap.size < w1.heap.size := by have := hb1.size; (try simp at this); omega
  have hbw : Below w.heap.size w w1 := belT (by (repeat' (first | (with_reducible first | exact bR _ _ | assumption | apply bS | apply bA | apply bD | apply bN | exact bL _) | (simp; done) | (simp; omega) | omega | exact bL _))) hb1
  have xl : w.heap.size < w1.heap.size := Nat.lt_of_lt_of_le (by simp) hb1.size
  go_wp2_with fail
  exact bodyPost_ret (v := runR (((0, 0), 0), 2100)) (by simp [results, Try.results9, go_sem, runR, *]) rfl ⟨rfl, by (repeat' (first | (with_reducible first | exact bR _ _ | assumption | apply bS | apply bA | apply bD | apply bN | exact bL _) | (simp; done) | (simp; omega) | omega | exact bL _))⟩
end Go.Proofs.Ytnjalpcmjkahkaa
