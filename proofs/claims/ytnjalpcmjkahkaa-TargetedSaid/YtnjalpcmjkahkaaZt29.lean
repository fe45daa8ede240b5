/- The reference's engine for targets: its state in memory, what its small functions make of it. -/
import Derived.Test.YtnjalpcmjkahkaaZt23
import Derived.Test.YtnjalpcmjkahkaaZt26
import Derived.Test.YtnjalpcmjkahkaaZt27
import Derived.Test.YtnjalpcmjkahkaaZt28
set_option maxRecDepth 100000
set_option maxHeartbeats 8000000
namespace Go.Proofs.Ytnjalpcmjkahkaa
open Go.RowKit
set_option linter.unusedVariables false
set_option linter.unusedSimpArgs false
theorem own_tyX {B : Nat} {w : World} {v : Value} {l : List Fx} (h : OwnX B w v l) : ∀ g, v.ownBlock = some g → TyAt w g 91 := by
 intro g hg
 rcases h.2 with ⟨h1, _⟩ | ⟨g', cap, cur, h1, _, h2, _⟩
 ·rw [h1] at hg; cases hg
 ·rw [h1] at hg
  have : g' = g := Option.some.inj hg
  subst this
  exact ⟨cur, (0, 0), h2⟩
theorem vf_of {B G : Nat} {w : World} {sv : Value} {l : List Fx} (h : OwnX B w sv l) (hG : TyAt w G 69) : VF (Bp G sv) w := by
 intro g hg
 rcases hg with hg | hg
 ·subst hg
  exact ⟨fun h2 => TyAt.ne hG h2 (by decide) rfl, fun h2 => TyAt.ne hG h2 (by decide) rfl⟩
 ·have := own_tyX h g hg
  exact ⟨fun h2 => TyAt.ne this h2 (by decide) rfl, fun h2 => TyAt.ne this h2 (by decide) rfl⟩
def fkn (k : Int) : Int := if k = 6 then 2 else if k = 7 then 3 else if k = 8 then 4 else if k = 9 then 8 else if k = 10 then 9 else if k = 11 then 11 else if k = 12 then 12 else 0
def FX (ts : List Tg) (W : World) (f : NF) (x : Fx) : Prop :=
  (0 ≤ x.nd ∧ x.nd < ts.length) ∧
  ((f.st = 0 ∧ x.nd = f.node ∧ (5 ≤ (ndT ts f.node).k ∧ (ndT ts f.node).k ≤ 12) ∧ x.st = fkn (ndT ts f.node).k ∧ VR W f.env (.inr x.en)) ∨
   (f.st = 1 ∧ x.nd = f.node ∧ (((ndT ts f.node).k = 8 ∧ x.st = 5) ∨ ((ndT ts f.node).k = 10 ∧ x.st = 10)) ∧ VR W f.val (.inl x.th)) ∨
   (f.st = 2 ∧ x.st = 1 ∧ VR W f.val (.inl x.th)))
theorem FX.bar {ts : List Tg} {S : Nat → Prop} {W W' : World} {f : NF} {x : Fx} (h : FX ts W f x) (hb : Bar S W W') (hS : VF S W) : FX ts W' f x := by
 obtain ⟨h0, ⟨a, b, c, d, e⟩ | ⟨a, b, c, d⟩ | ⟨a, b, c⟩⟩ := h
 ·exact ⟨h0, .inl ⟨a, b, c, d, e.bar hb hS⟩⟩
 ·exact ⟨h0, .inr (.inl ⟨a, b, c, d.bar hb hS⟩)⟩
 ·exact ⟨h0, .inr (.inr ⟨a, b, c.bar hb hS⟩)⟩
def StX (ts : List Tg) (W : World) : List NF → List Fx → Prop
 | [], l => l = []
 | f :: s, l => ∃ l' x, l = l' ++ [x] ∧ FX ts W f x ∧ StX ts W s l'
theorem StX.len {ts : List Tg} {W : World} : ∀ {s : List NF} {l : List Fx}, StX ts W s l → l.length = s.length
 | [], _, h => by rw [show _ = [] from h]; rfl
 | f :: s, _, ⟨l', x, h, _, hs⟩ => by rw [h, List.length_append, hs.len]; rfl
theorem StX.bar {ts : List Tg} {S : Nat → Prop} {W W' : World} (hb : Bar S W W') (hS : VF S W) : ∀ {s : List NF} {l : List Fx}, StX ts W s l → StX ts W' s l
 | [], _, h => h
 | f :: s, _, ⟨l', x, h, hf, hr⟩ => ⟨l', x, h, hf.bar hb hS, StX.bar hb hS hr⟩
theorem StX.below {ts : List Tg} {W W' : World} {s : List NF} {l : List Fx} (h : StX ts W s l) (hb : Below W.heap.size W W') : StX ts W' s l := h.bar (Bar.of_below (S := fun _ => False) hb) (vf_no W)
theorem FX.below {ts : List Tg} {W W' : World} {f : NF} {x : Fx} (h : FX ts W f x) (hb : Below W.heap.size W W') : FX ts W' f x := h.bar (Bar.of_below (S := fun _ => False) hb) (vf_no W)
structure ERc (B G : Nat) (tv sv : Value) (c : Ec) (l : List Fx) (w : World) : Prop where
 ec : EcC w G tv sv c
 own : OwnX B w sv l
 gB : G < B
 bl : B ≤ w.heap.size
 kS : ∀ k, sv.ownBlock = some k → ¬ c.w0.2 k
 dn : c.dn = false
theorem ERc.vf {B G : Nat} {tv sv : Value} {c : Ec} {l : List Fx} {w : World} (h : ERc B G tv sv c l w) : VF (Bp G sv) w := vf_of h.own h.ec.ty
theorem ERc.noG {B G : Nat} {tv sv : Value} {c : Ec} {l : List Fx} {w : World} (h : ERc B G tv sv c l w) : ∀ k, sv.ownBlock = some k → ¬ (Bq G) k := fun k hk e => by
 have h1 := (own_ltX h.own k hk).1
 have h2 := h.gB
 have e : k = G := e
 omega
theorem ERc.below {B G : Nat} {tv sv : Value} {c : Ec} {l : List Fx} {w w' : World} (h : ERc B G tv sv c l w) (hb : Below w.heap.size w w') : ERc B G tv sv c l w' :=
 ⟨h.ec.below hb, h.own.below hb, h.gB, by have := h.bl; have := hb.size; omega, h.kS, h.dn⟩
def MXv (ts : List Tg) (c : Ec) (l : List Fx) (w : World) : NM → Prop
 | .ev stk node env => c.dn = false ∧ c.ev = true ∧ c.nd = node ∧ StX ts w stk l ∧ VR w env (.inr c.en)
 | .gv stk v => c.dn = false ∧ c.ev = false ∧ StX ts w stk l ∧ VR w v (.inl c.th)
 | .en k n => c.dn = true ∧ c.k = k ∧ c.n = n ∧ l.length ≤ 4096
structure EXc (B G : Nat) (tv sv : Value) (c : Ec) (l : List Fx) (w : World) : Prop where
 ec : EcC w G tv sv c
 own : OwnX B w sv l
 gB : G < B
 bl : B ≤ w.heap.size
 kS : ∀ k, sv.ownBlock = some k → ¬ c.w0.2 k
def MX (w0 : Gh) (ts : List Tg) (B G : Nat) (tv : Value) (m : NM) (w : World) : Prop := ∃ sv c l, c.w0 = w0 ∧ EXc B G tv sv c l w ∧ MXv ts c l w m
theorem ERc.ex {B G : Nat} {tv sv : Value} {c : Ec} {l : List Fx} {w : World} (h : ERc B G tv sv c l w) : EXc B G tv sv c l w := ⟨h.ec, h.own, h.gB, h.bl, h.kS⟩
theorem EXc.er {B G : Nat} {tv sv : Value} {c : Ec} {l : List Fx} {w : World} (h : EXc B G tv sv c l w) (hd : c.dn = false) : ERc B G tv sv c l w := ⟨h.ec, h.own, h.gB, h.bl, h.kS, hd⟩
theorem EXc.below {B G : Nat} {tv sv : Value} {c : Ec} {l : List Fx} {w w' : World} (h : EXc B G tv sv c l w) (hb : Below w.heap.size w w') : EXc B G tv sv c l w' :=
 ⟨h.ec.below hb, h.own.below hb, h.gB, by have := h.bl; have := hb.size; omega, h.kS⟩
theorem MXv.below {ts : List Tg} {c : Ec} {l : List Fx} {w w' : World} {m : NM} (h : MXv ts c l w m) (hb : Below w.heap.size w w') : MXv ts c l w' m := by
 cases m with
 | ev stk node env => obtain ⟨h1, h2, h3, h4, h5⟩ := h; exact ⟨h1, h2, h3, h4.below hb, h5.below hb⟩
 | gv stk v => obtain ⟨h1, h2, h3, h4⟩ := h; exact ⟨h1, h2, h3.below hb, h4.below hb⟩
 | en k n => exact h
theorem MX.below {w0 : Gh} {ts : List Tg} {B G : Nat} {tv : Value} {m : NM} {w w' : World} (h : MX w0 ts B G tv m w) (hb : Below w.heap.size w w') : MX w0 ts B G tv m w' := by
 obtain ⟨sv, c, l, h0, h1, h2⟩ := h
 exact ⟨sv, c, l, h0, h1.below hb, h2.below hb⟩
theorem ERc.obj {B G : Nat} {tv sv : Value} {c c' : Ec} {l : List Fx} {w w' : World} (h : ERc B G tv sv c l w) (hm : EcC w' G tv sv c') (hb : Bar (Bq G) w w') (hw : c'.w0 = c.w0) : EXc B G tv sv c' l w' :=
 ⟨hm, Bar.own hb h.own h.noG, h.gB, by have := h.bl; have := hb.size; omega, by rw [hw]; exact h.kS⟩
theorem mx_gv {ts : List Tg} {B G : Nat} {tv sv : Value} {c : Ec} {l : List Fx} {w w' : World} {stk : List NF} {v : NV} {t : V7} {e : Ending} (h : ERc B G tv sv c l w) (hs : StX ts w stk l) (hv : VR w v (.inl t))
  (hp : EcP G tv sv { c with ev := false, th := t } w e w') : MX c.w0 ts B G tv (.gv stk v) w' :=
 ⟨sv, { c with ev := false, th := t }, l, rfl, h.obj hp.2.1 hp.2.2 rfl, h.dn, rfl, hs.bar (bq_bp (sv := sv) hp.2.2) h.vf, hv.bar (bq_bp (sv := sv) hp.2.2) h.vf⟩
theorem mx_ev {ts : List Tg} {B G : Nat} {tv sv : Value} {c : Ec} {l : List Fx} {w w' : World} {stk : List NF} {env : NV} {n : Int} {p : Option Addr} {e : Ending} (h : ERc B G tv sv c l w) (hs : StX ts w stk l) (hv : VR w env (.inr p))
  (hp : EcP G tv sv { c with ev := true, nd := n, en := p } w e w') : MX c.w0 ts B G tv (.ev stk n env) w' :=
 ⟨sv, { c with ev := true, nd := n, en := p }, l, rfl, h.obj hp.2.1 hp.2.2 rfl, h.dn, rfl, rfl, hs.bar (bq_bp (sv := sv) hp.2.2) h.vf, hv.bar (bq_bp (sv := sv) hp.2.2) h.vf⟩
theorem mx_en {ts : List Tg} {B G : Nat} {tv sv : Value} {c : Ec} {l : List Fx} {w w' : World} {k n : Int} {e : Ending} (h : ERc B G tv sv c l w) (hl : l.length ≤ 4096) (hp : EcP G tv sv { c with dn := true, k := k, n := n } w e w') : MX c.w0 ts B G tv (.en k n) w' :=
 ⟨sv, { c with dn := true, k := k, n := n }, l, rfl, h.obj hp.2.1 hp.2.2 rfl, rfl, rfl, rfl, hl⟩
theorem mx_en2 {ts : List Tg} {B G : Nat} {tv sv : Value} {c : Ec} {l : List Fx} {w w1 w2 w3 : World} {k n : Int} {t : V7} {e e' : Ending} (h : ERc B G tv sv c l w) (hl : l.length ≤ 4096) (hp : EcP G tv sv { c with dn := true, k := k, n := n } w e w1) (hb : Below w1.heap.size w1 w2)
  (hq : EcP G tv sv { c with dn := true, k := k, n := n, ev := false, th := t } w2 e' w3) : MX c.w0 ts B G tv (.en k n) w3 :=
 ⟨sv, { c with dn := true, k := k, n := n, ev := false, th := t }, l, rfl, h.obj hq.2.1 ((hp.2.2.next hb).trans hq.2.2 fun _ _ h => h) rfl, rfl, rfl, rfl, hl⟩
theorem mx_push {ts : List Tg} {B G : Nat} {tv sv : Value} {c : Ec} {l : List Fx} {w w' : World} {x : Fx} {e : Ending} (h : ERc B G tv sv c l w) (hp : PxP B G tv sv c (l ++ [x]) w e w') :
  ∃ sv', e = .returned (.tuple #[]) ∧ ERc B G tv sv' c (l ++ [x]) w' ∧ Bar (Bp G sv) w w' ∧
   ∀ {stk : List NF} {f : NF}, StX ts w stk l → FX ts w f x → StX ts w' (f :: stk) (l ++ [x]) := by
 obtain ⟨sv', he, hm, ho, hb, hs⟩ := hp
 exact ⟨sv', he, ⟨hm, ho, h.gB, by have := h.bl; have := hb.size; omega, fun k hk => (hs k hk).elim (h.kS k) fun hle hkp => by have := h.ec.kl k hkp; omega, h.dn⟩, hb, fun h1 h2 => ⟨l, x, rfl, h2.bar hb h.vf, h1.bar hb h.vf⟩⟩
def NxP (w0 : Gh) (ts : List Tg) (B G : Nat) (tv : Value) (m : NM) (e : Ending) (w' : World) : Prop := e = .returned (.tuple #[]) ∧ MX w0 ts B G tv m w'
theorem goes_st {B G : Nat} {tv sv : Value} {c : Ec} {l : List Fx} {w : World} (h : ERc B G tv sv c l w) {ts : List Tg} {stk : List NF} {env : NV} {p : Option Addr} (n : Int) (W : World) (hb : Below w.heap.size w W) (hs : StX ts W stk l) (hv : VR W env (.inr p)) :
  Calls Try.prog 20 #[.pointer (some ⟨G, 0, none⟩), .int .i64 n, .pointer p] W fun e w' => NxP c.w0 ts B G tv (.ev stk n env) e w' ∧ Bar (Bq G) W w' ∧ EcC w' G tv sv { c with ev := true, nd := n, en := p } :=
 (goes_any W G tv sv c n p (Lib.hid (h.ec.below hb))).mono fun e w' hp => ⟨⟨hp.1, mx_ev (h.below hb) hs hv hp⟩, hp.2.2, hp.2.1⟩
theorem gives_st {B G : Nat} {tv sv : Value} {c : Ec} {l : List Fx} {w : World} (h : ERc B G tv sv c l w) {ts : List Tg} {stk : List NF} {v : NV} (t : V7) (W : World) (hb : Below w.heap.size w W) (hs : StX ts W stk l) (hv : VR W v (.inl t)) :
  Calls Try.prog 44 #[.pointer (some ⟨G, 0, none⟩), t.val] W fun e w' => NxP c.w0 ts B G tv (.gv stk v) e w' ∧ Bar (Bq G) W w' :=
 (gives_any W G tv sv c t (Lib.hid (h.ec.below hb))).mono fun e w' hp => ⟨⟨hp.1, mx_gv (h.below hb) hs hv hp⟩, hp.2.2⟩
theorem end_st {B G : Nat} {tv sv : Value} {c : Ec} {l : List Fx} {w : World} (h : ERc B G tv sv c l w) {ts : List Tg} (k n : Int) (W : World) (hb : Below w.heap.size w W) (hl : l.length ≤ 4096) :
  Calls Try.prog 43 #[.pointer (some ⟨G, 0, none⟩), .int .i64 k, .int .i64 n] W fun e w' => NxP c.w0 ts B G tv (.en k n) e w' ∧ Bar (Bq G) W w' ∧
   ∀ (t : V7) (W2 : World), Below w'.heap.size w' W2 → Calls Try.prog 44 #[.pointer (some ⟨G, 0, none⟩), t.val] W2 fun e w3 => NxP c.w0 ts B G tv (.en k n) e w3 :=
 (eend_any W G tv sv c k n (Lib.hid (h.ec.below hb))).mono fun e w' hp => ⟨⟨hp.1, mx_en (h.below hb) hl hp⟩, hp.2.2, fun t W2 hb2 =>
  (gives_any W2 G tv sv { c with dn := true, k := k, n := n } t (Lib.hid (hp.2.1.below hb2))).mono fun e2 w3 hq => ⟨hq.1, mx_en2 (h.below hb) hl hp hb2 hq⟩⟩
theorem push_st {B G : Nat} {tv sv : Value} {c : Ec} {l : List Fx} {w : World} (h : ERc B G tv sv c l w) {ts : List Tg} (f : Fx) (W : World) (hb : Below w.heap.size w W) (hl : l.length ≤ 100000) :
  Calls Try.prog 45 #[.pointer (some ⟨G, 0, none⟩), .int .i64 f.st, .int .i64 f.nd, .pointer f.en, f.th.val] W fun e w' => e = .returned (.tuple #[]) ∧ ∃ sv', ERc B G tv sv' c (l ++ [f]) w' ∧ Bar (Bp G sv) W w' ∧
   (∀ {stk : List NF} {g : NF}, StX ts w stk l → FX ts w g f → StX ts w' (g :: stk) (l ++ [f])) ∧ ∀ {v : NV} {x : V7 ⊕ Option Addr}, VR w v x → VR w' v x := by
 have h1 := h.below hb
 refine (push17_any B G tv sv l c f W (Lib.hid h1.ec) (Lib.hid h1.own) ⟨h1.gB, h1.bl⟩ hl h1.kS).mono fun e w' hp => ?_
 obtain ⟨sv', he, h2, hb2, hs⟩ := mx_push (ts := ts) h1 hp
 exact ⟨he, sv', h2, hb2, fun a b => hs (a.below hb) (b.below hb), fun a => (a.below hb).bar hb2 h1.vf⟩
theorem ERc.nbox {B G : Nat} {tv sv : Value} {c : Ec} {l : List Fx} {w : World} (h : ERc B G tv sv c l w) {g : Nat} (hg : w.heap.size ≤ g) : ¬ Bp G sv g := fun e => by
 rcases e with e | e
 ·have := h.ec.lt; omega
 ·have := (own_ltX h.own g e).2; omega
open Go.RowKit
def ThrP (W : World) (t f : Th) (e : Ending) (w' : World) : Prop := ∃ b, e = .returned (.agg #[.int .i64 t.a, .int .i64 t.b, .pointer t.c, .pointer t.d, .pointer (some ⟨b, 0, none⟩)]) ∧ W.heap.size ≤ b ∧ b < w'.heap.size ∧ ThO w' b 0 f ∧ Below W.heap.size W w'
theorem through_any (W : World) (t f : Th) :
  Calls Try.prog 88 #[.agg #[.int .i64 t.a, .int .i64 t.b, .pointer t.c, .pointer t.d, .pointer t.e], .agg #[.int .i64 f.a, .int .i64 f.b, .pointer f.c, .pointer f.d, .pointer f.e]] W (ThrP W t f) := by
 obtain ⟨a, b, c, d, e⟩ := t
 obtain ⟨fa, fb, fc, fd, fe⟩ := f
 dsimp only
 go_enter Try.func88, Try.ntmps88
 go_wp2_with fail
 exact bodyPost_ret (v := .agg #[.int .i64 a, .int .i64 b, .pointer c, .pointer d, .pointer (some ⟨W.heap.size + 1, 0, none⟩)]) (by simp [results, Try.results88, go_sem, *]) rfl ⟨W.heap.size + 1, rfl, by omega, by simp, by simp [ThO, go_sem], by (repeat' (first | (with_reducible first | exact bR _ _ | assumption | apply bS | apply bA | apply bD | apply bN | exact bL _) | (simp; done) | (simp; omega) | omega | exact bL _))⟩
theorem rr_ret {A : Nat → Prop} {W : World} {v : RV} {t : Th} (h : RR A W v (.inl t)) :
  (∃ u d tu, v = .ret u ∧ t = ⟨5, 0, none, d, none⟩ ∧ BxC A W d tu ∧ RR A W u (.inl tu)) ∨
  (∃ n u g d e tu te, v = .op n u g ∧ t = ⟨6, n, none, d, e⟩ ∧ BxC A W d tu ∧ RR A W u (.inl tu) ∧ BxC A W e te ∧ RR A W g (.inl te)) ∨
  ((t.a ≠ 5 ∧ t.a ≠ 6) ∧ (∀ T stk n e, rBind T stk n e v = .en 5 0) ∧ ∀ T fur stk e, rCase T fur stk e v = .en 5 0) := by
 cases v with
 | num n => cases h; exact .inr (.inr ⟨⟨by show (0 : Int) ≠ 5; decide, by show (0 : Int) ≠ 6; decide⟩, fun _ _ _ _ => rfl, fun _ _ _ _ => rfl⟩)
 | tru n => cases h; exact .inr (.inr ⟨⟨by show (1 : Int) ≠ 5; decide, by show (1 : Int) ≠ 6; decide⟩, fun _ _ _ _ => rfl, fun _ _ _ _ => rfl⟩)
 | fn n e => obtain ⟨c, l, h, _⟩ := h; cases h; exact .inr (.inr ⟨⟨by show (2 : Int) ≠ 5; decide, by show (2 : Int) ≠ 6; decide⟩, fun _ _ _ _ => rfl, fun _ _ _ _ => rfl⟩)
 | bnd n e f => obtain ⟨c, l, d, u, h, _⟩ := h; cases h; exact .inr (.inr ⟨⟨by show (3 : Int) ≠ 5; decide, by show (3 : Int) ≠ 6; decide⟩, fun _ _ _ _ => rfl, fun _ _ _ _ => rfl⟩)
 | fwd f g => obtain ⟨d, u, e, x, h, _⟩ := h; cases h; exact .inr (.inr ⟨⟨by show (4 : Int) ≠ 5; decide, by show (4 : Int) ≠ 6; decide⟩, fun _ _ _ _ => rfl, fun _ _ _ _ => rfl⟩)
 | ret u => obtain ⟨d, x, h, hb, hr⟩ := h; cases h; exact .inl ⟨u, d, x, rfl, rfl, hb, hr⟩
 | op n u f => obtain ⟨d, x, e, y, h, hb, hr, hc, hs⟩ := h; cases h; exact .inr (.inl ⟨n, u, f, d, e, x, y, rfl, rfl, hb, hr, hc, hs⟩)
 | nil => cases h
 | cons u r => obtain ⟨u, l, h, _⟩ := h; cases h
theorem rr_cons {A : Nat → Prop} {W : World} {v e : RV} {t : Th} {l : List Th} (hv : RR A W v (.inl t)) (he : RR A W e (.inr l)) : RR A W (.cons v e) (.inr (t :: l)) := ⟨t, l, rfl, hv, he⟩
theorem MRc.bx {B G : Nat} {tv fv sv : Value} {c : Mc} {l : List Fr} {w w' : World} (h : MRc B G tv fv sv c l w) {b o : Nat} {t : Th} (hb : w.heap.size ≤ b) (hl : b < w'.heap.size) (ht : ThO w' b o t) : BxC (Bp G sv) w' (some ⟨b, o, none⟩) t :=
 ⟨b, o, rfl, hl, fun hs => by
  rcases hs with hs | hs
  ·have := h.mc.lt; omega
  ·have := (own_lt h.own _ hs).2; omega, ht⟩
theorem Wk.withv {B G : Nat} {tv fv sv : Value} {c : Mc} {l : List Fr} {ts : List Tg} {stk : List RF} {f : RF} {x : Fr} {v : RV} {t : Th} {w : World} (h : Wk B G tv fv sv c l ts stk f x v t w) {env u : RV} {p : Option Addr} {tu : Th} (hl : env.list.length ≤ 1000000000) :
  ∀ W, Below w.heap.size w W → (∃ e, EnR W (.pointer p) e ∧ RR (Bp G sv) W env (.inr e)) → RR (Bp G sv) W u (.inl tu) →
  Calls Try.prog 81 #[.agg #[.pointer p], .agg #[.int .i64 tu.a, .int .i64 tu.b, .pointer tu.c, .pointer tu.d, .pointer tu.e]] W fun e w' => ∃ p', e = .returned (.agg #[.pointer p']) ∧ (∃ e, EnR w' (.pointer p') e ∧ RR (Bp G sv) w' (.cons u env) (.inr e)) ∧ Below W.heap.size W w' := fun W hb he hu => by
 obtain ⟨e, hE, hR⟩ := he
 refine (eWith_any W (.pointer p) e tu (Lib.hid hE) (by have := hR.len; omega)).mono ?_
 rintro e1 w1 ⟨p', rfl, h1, h2⟩
 exact ⟨p', rfl, ⟨_, h1, rr_cons (hu.below h2) (hR.below h2)⟩, h2⟩
end Go.Proofs.Ytnjalpcmjkahkaa
