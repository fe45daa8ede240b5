/- The reference's engine for targets: a name's value, a value bound, what is told in the end. -/
import Derived.Test.YtnjalpcmjkahkaaZt20
import Derived.Test.YtnjalpcmjkahkaaZt22
set_option maxRecDepth 100000
set_option maxHeartbeats 8000000
namespace Go.Proofs.Ytnjalpcmjkahkaa
open Go.RowKit
set_option linter.unusedVariables false
set_option linter.unusedSimpArgs false
def FiP (W : World) (X : Option NV) (e : Ending) (w' : World) : Prop := ∃ t ok, e = .returned (.tuple #[.agg #[.int .i64 t.k, .int .i64 t.n, .int .i64 t.nd, .pointer t.en, .slice none 0 0, .pointer t.one, .pointer t.two], .bool ok]) ∧ Below W.heap.size W w' ∧ ((X = none ∧ ok = false) ∨ ∃ v, X = some v ∧ ok = true ∧ VR W v (.inl t))
def FiR (W : World) (y : Int) (X : Option NV) (pv : Value) : Prop := ∃ (e : NV) (p : Option Addr), pv = .pointer p ∧ Hid (VR W e (.inr p)) ∧ Hid (e.find y = X)
def blkOf : Value → Nat
 | .pointer (some a) => a.block + 1
 | _ => 0
theorem find17_any (W : World) (e : NV) (p : Option Addr) (y : Int) (h : Hid (VR W e (.inr p))) :
  Calls Try.prog 42 #[.pointer p, .int .i64 y] W (FiP W (e.find y)) := by
 obtain ⟨W1, hW1⟩ : ∃ w, W.alloc (.cells #[.int .i64 0, .int .i64 0, .int .i64 0, .pointer none, .slice none 0 0, .pointer none, .pointer none] 67) = w := ⟨_, rfl⟩
 have hb : Below W.heap.size W W1 := by rw [← hW1]; exact below_alc _ _
 have hr0 : W1.cell? ⟨W.heap.size, 0, none⟩ = some (.int .i64 0) := by rw [← hW1]; simp [go_sem]
 have hr1 : W1.cell? ⟨W.heap.size, 1, none⟩ = some (.int .i64 0) := by rw [← hW1]; simp [go_sem]
 have hr2 : W1.cell? ⟨W.heap.size, 2, none⟩ = some (.int .i64 0) := by rw [← hW1]; simp [go_sem]
 have hr3 : W1.cell? ⟨W.heap.size, 3, none⟩ = some (.pointer none) := by rw [← hW1]; simp [go_sem]
 have hr4 : W1.cell? ⟨W.heap.size, 4, none⟩ = some (.slice none 0 0) := by rw [← hW1]; simp [go_sem]
 have hr5 : W1.cell? ⟨W.heap.size, 5, none⟩ = some (.pointer none) := by rw [← hW1]; simp [go_sem]
 have hr6 : W1.cell? ⟨W.heap.size, 6, none⟩ = some (.pointer none) := by rw [← hW1]; simp [go_sem]
 have hrf : ∀ o, W1.frozen? ⟨W.heap.size, o, none⟩ = false := by intro o; rw [← hW1]; simp [go_sem]
 have hrl : W.heap.size < W1.heap.size := by rw [← hW1]; simp
 obtain ⟨X, hX⟩ : ∃ X, e.find y = X := ⟨_, rfl⟩
 rw [hX]
 have hst := Lib.hid (show FiR W y X (.pointer p) from ⟨e, p, rfl, h, Lib.hid hX⟩)
 have hbh := Lib.hid hb
 clear hX h hb
 go_enter Try.func42, Try.ntmps42
 go_wp2_with fail
 (try rw [hW1])
 clear hW1
 go_loop [0] (fun pv => FiR W y X pv) (fun pv => blkOf pv)
 case atStart => exact hst.out
 case round =>
  obtain ⟨e, p, rfl, hv, hX⟩ := hrel
  cases e with
  | num _ => have h := hv.out; cases h
  | tru _ => have h := hv.out; cases h
  | fn _ _ => obtain ⟨_, h, _⟩ := hv.out; cases h
  | bnd _ _ _ => obtain ⟨_, _, _, h, _⟩ := hv.out; cases h
  | fwd _ _ => obtain ⟨_, _, _, _, h, _⟩ := hv.out; cases h
  | ret _ => obtain ⟨_, _, h, _⟩ := hv.out; cases h
  | op _ _ _ => obtain ⟨_, _, _, _, h, _⟩ := hv.out; cases h
  | nil =>
   obtain rfl : p = none := by have := hv.out; injection this
   have hX0 : (none : Option NV) = X := hX.out
   go_wp2_with fail
   exact bodyPost_ret (v := .tuple #[.agg #[.int .i64 0, .int .i64 0, .int .i64 0, .pointer none, .slice none 0 0, .pointer none, .pointer none], .bool false]) (by simp [results, Try.results42, go_sem, *]) rfl ⟨v70, false, rfl, by have := hbh.out; (repeat' (first | (with_reducible first | exact bR _ _ | assumption | apply bS | apply bA | apply bD | apply bN | exact bL _) | (simp; done) | (simp; omega) | omega | exact bL _)), .inl ⟨hX0.symm, rfl⟩⟩
  | cons x v r =>
   obtain ⟨g, t, q, hx, hg, hT, ⟨h0, ⟨u0, u1, u2, u3, u4, u5, u6⟩, h8⟩, hlt, hvv, hr⟩ := hv.out
   obtain rfl : p = some ⟨g, 0, none⟩ := by injection hx
   have h0 : W1.cell? _ = _ := carry hbh.out hg h0
   have u0 : W1.cell? _ = _ := carry hbh.out hg u0
   have u1 : W1.cell? _ = _ := carry hbh.out hg u1
   have u2 : W1.cell? _ = _ := carry hbh.out hg u2
   have u3 : W1.cell? _ = _ := carry hbh.out hg u3
   have u4 : W1.cell? _ = _ := carry hbh.out hg u4
   have u5 : W1.cell? _ = _ := carry hbh.out hg u5
   have u6 : W1.cell? _ = _ := carry hbh.out hg u6
   have h8 : W1.cell? _ = _ := carry hbh.out hg h8
   have hg1 : g < W1.heap.size := Nat.lt_of_lt_of_le hg hbh.out.size
   have hvv := Lib.hid hvv
   have hr := Lib.hid hr
   have hlt := Lib.hid hlt
   have hXo := Lib.hid (show (if x = y then some v else r.find y) = X from hX.out)
   by_cases e : x = y
   ·have hx1 : some v = X := (if_pos e).symm.trans hXo.out
    have hx1 := Lib.hid hx1
    subst e
    clear hst hv hX hXo hr hlt hT
    go_wp2_with fail
    exact bodyPost_ret (v := .tuple #[.agg #[.int .i64 t.k, .int .i64 t.n, .int .i64 t.nd, .pointer t.en, .slice none 0 0, .pointer t.one, .pointer t.two], .bool true]) (by simp [results, Try.results42, go_sem, *]) rfl ⟨t, true, rfl, by have := hbh.out; (repeat' (first | (with_reducible first | exact bR _ _ | assumption | apply bS | apply bA | apply bD | apply bN | exact bL _) | (simp; done) | (simp; omega) | omega | exact bL _)), .inr ⟨v, hx1.out.symm, rfl, hvv.out⟩⟩
   ·have hx1 := Lib.hid ((if_neg e).symm.trans hXo.out)
    clear hst hv hX hXo
    go_wp2_with fail
    go_round
    case rel => exact ⟨r, q, rfl, hr, hx1⟩
    case measure =>
     cases q with
     | none => show 0 < g + 1; omega
     | some a => have := hlt.out a rfl; show a.block + 1 < g + 1; omega
open Go.RowKit
theorem no_new {sv : Value} {w : World} : ∀ g, sv.ownBlock = some g → sv.ownBlock = some g ∨ w.heap.size ≤ g := fun _ h => .inl h
theorem bq_bp {G : Nat} {sv : Value} {w w' : World} (hb : Bar (Bq G) w w') : Bar (Bp G sv) w w' := ⟨hb.os, hb.tape, hb.output, hb.size, fun k hk hn => hb.block k hk fun e => hn (.inl e)⟩
theorem MRc.obj {B G : Nat} {tv fv sv : Value} {c c' : Mc} {l : List Fr} {w w' : World} (h : MRc B G tv fv sv c l w) (hm : McC w' G tv fv sv c') (hb : Bar (Bq G) w w') (hw : c'.w0 = c.w0) : MRc B G tv fv sv c' l w' :=
 ⟨hm, Bar.own hb h.own h.noG, h.gB, by have := h.bl; have := hb.size; omega, by rw [hw]; exact h.kS⟩
theorem mr_gv {B G : Nat} {tv fv sv : Value} {c : Mc} {l : List Fr} {w w' : World} {stk : List RF} {v : RV} {t : Th} (h : MRc B G tv fv sv c l w) (he : c.ended = false) (hs : StR (Bp G sv) w stk l) (hv : RR (Bp G sv) w v (.inl t))
  (hm : McC w' G tv fv sv { c with hv := true, th := t }) (hb : Bar (Bq G) w w') : MR c.w0 B G tv fv (.gv stk v) w' :=
 ⟨sv, { c with hv := true, th := t }, l, rfl, h.obj hm hb rfl, he, rfl, hs.step (bq_bp hb) h.enF no_new, hv.step (bq_bp hb) h.enF no_new⟩
theorem mr_ev {B G : Nat} {tv fv sv : Value} {c : Mc} {l : List Fr} {w w' : World} {stk : List RF} {env : RV} {n : Int} {p : Option Addr} {e : List Th} (h : MRc B G tv fv sv c l w) (he : c.ended = false) (hs : StR (Bp G sv) w stk l) (hE : EnR w (.pointer p) e) (hv : RR (Bp G sv) w env (.inr e))
  (hm : McC w' G tv fv sv { c with hv := false, nd := n, en := p }) (hb : Bar (Bq G) w w') : MR c.w0 B G tv fv (.ev stk n env) w' :=
 ⟨sv, { c with hv := false, nd := n, en := p }, l, rfl, h.obj hm hb rfl, he, rfl, rfl, hs.step (bq_bp hb) h.enF no_new, e, hE.bar (bq_bp (sv := sv) hb) h.enF, hv.step (bq_bp hb) h.enF no_new⟩
theorem mr_en {B G : Nat} {tv fv sv : Value} {c : Mc} {l : List Fr} {w w' : World} {k n : Int} (h : MRc B G tv fv sv c l w) (hm : McC w' G tv fv sv { c with k := k, n := n, ended := true }) (hb : Bar (Bq G) w w') : MR c.w0 B G tv fv (.en k n) w' :=
 ⟨sv, { c with k := k, n := n, ended := true }, l, rfl, h.obj hm hb rfl, rfl, rfl, rfl⟩
theorem mr_push {B G : Nat} {tv fv sv : Value} {c : Mc} {l : List Fr} {w w' : World} {x : Fr} {e : Ending} (h : MRc B G tv fv sv c l w) (hp : PuP B G tv fv sv c (l ++ [x]) w e w') :
  ∃ sv', e = .returned (.tuple #[]) ∧ MRc B G tv fv sv' c (l ++ [x]) w' ∧ Bar (Bp G sv) w w' ∧ (∀ g, sv'.ownBlock = some g → sv.ownBlock = some g ∨ w.heap.size ≤ g) ∧
   ∀ {stk : List RF} {f : RF}, StR (Bp G sv) w stk l → FrR (Bp G sv) w f x → StR (Bp G sv') w' (f :: stk) (l ++ [x]) := by
 obtain ⟨sv', he, hm, ho, hb, hs⟩ := hp
 exact ⟨sv', he, ⟨hm, ho, h.gB, by have := h.bl; have := hb.size; omega, fun k hk => (hs k hk).elim (h.kS k) fun hle hkp => by have := h.mc.kl k hkp; omega⟩, hb, hs, fun h1 h2 => ⟨l, x, rfl, h2.step hb h.enF hs, h1.step hb h.enF hs⟩⟩
def TvR (B G : Nat) (w : World) (tv : Value) (ts : List Tg) : Prop := ∃ T off c, tv = .slice (some ⟨T, off, none⟩) ts.length c ∧ T < B ∧ T ≠ G ∧ T < w.heap.size ∧ TgSl w T off ts
def FvR (B G : Nat) (w : World) (fv : Value) (fur : List Int) : Prop := ∃ F c, fv = .slice (some ⟨F, 0, none⟩) fur.length c ∧ F < B ∧ F ≠ G ∧ F < w.heap.size ∧ ∀ i, i < fur.length → w.cell? ⟨F, i, none⟩ = some (.int .i64 (fur.getD i 0))
end Go.Proofs.Ytnjalpcmjkahkaa
