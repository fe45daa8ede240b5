/- The machine of layer 21: what its small functions make of its state. -/
import Derived.Test.YtnjalpcmjkahkaaRmD
namespace Go.Proofs.Ytnjalpcmjkahkaa
open Go.RowKit
set_option linter.unusedVariables false
set_option linter.unusedSimpArgs false

theorem no_new {sv : Value} {w : World} : ∀ g, sv.ownBlock = some g → sv.ownBlock = some g ∨ w.heap.size ≤ g := fun _ h => .inl h
theorem bq_bp {G : Nat} {sv : Value} {w w' : World} (hb : Bar (Bq G) w w') : Bar (Bp G sv) w w' := ⟨hb.os, hb.tape, hb.output, hb.size, fun k hk hn => hb.block k hk fun e => hn (.inl e)⟩
/-- only the object has turned. -/
theorem MRc.obj {B G : Nat} {tv fv sv : Value} {c c' : Mc} {l : List Fr} {w w' : World} (h : MRc B G tv fv sv c l w) (hm : McC w' G tv fv sv c') (hb : Bar (Bq G) w w') (hw : c'.w0 = c.w0) : MRc B G tv fv sv c' l w' :=
  ⟨hm, Bar.own hb h.own h.noG, h.gB, by have := h.bl; have := hb.size; omega, by rw [hw]; exact h.kS⟩
theorem mr_gv {B G : Nat} {tv fv sv : Value} {c : Mc} {l : List Fr} {w w' : World} {stk : List RF} {v : RV} {t : Th} (h : MRc B G tv fv sv c l w) (he : c.ended = false) (hs : StR (Bp G sv) w stk l) (hv : RR (Bp G sv) w v (.inl t))
    (hm : McC w' G tv fv sv { c with hv := true, th := t }) (hb : Bar (Bq G) w w') : MR c.w0 B G tv fv (.gv stk v) w' :=
  ⟨sv, { c with hv := true, th := t }, l, rfl, h.obj hm hb rfl, he, rfl, hs.step (bq_bp hb) h.enF no_new, hv.step (bq_bp hb) h.enF no_new⟩
theorem mr_ev {B G : Nat} {tv fv sv : Value} {c : Mc} {l : List Fr} {w w' : World} {stk : List RF} {env : RV} {n : Int} {p : Option Addr} {e : List Th} (h : MRc B G tv fv sv c l w) (he : c.ended = false) (hs : StR (Bp G sv) w stk l) (hE : EnR w (.pointer p) e) (hv : RR (Bp G sv) w env (.inr e))
    (hm : McC w' G tv fv sv { c with hv := false, nd := n, en := p }) (hb : Bar (Bq G) w w') : MR c.w0 B G tv fv (.ev stk n env) w' :=
  ⟨sv, { c with hv := false, nd := n, en := p }, l, rfl, h.obj hm hb rfl, he, rfl, rfl, hs.step (bq_bp hb) h.enF no_new, e, hE.bar (bq_bp (sv := sv) hb) h.enF, hv.step (bq_bp hb) h.enF no_new⟩
theorem mr_en {B G : Nat} {tv fv sv : Value} {c : Mc} {l : List Fr} {w w' : World} {k n : Int} (h : MRc B G tv fv sv c l w) (hm : McC w' G tv fv sv { c with k := k, n := n, ended := true }) (hb : Bar (Bq G) w w') : MR c.w0 B G tv fv (.en k n) w' :=
  ⟨sv, { c with k := k, n := n, ended := true }, l, rfl, h.obj hm hb rfl, rfl, rfl, rfl⟩
/-- a frame more. -/
theorem mr_push {B G : Nat} {tv fv sv : Value} {c : Mc} {l : List Fr} {w w' : World} {x : Fr} {e : Ending} (h : MRc B G tv fv sv c l w) (hp : PuP B G tv fv sv c (l ++ [x]) w e w') :
    ∃ sv', e = .returned (.tuple #[]) ∧ MRc B G tv fv sv' c (l ++ [x]) w' ∧ Bar (Bp G sv) w w' ∧ (∀ g, sv'.ownBlock = some g → sv.ownBlock = some g ∨ w.heap.size ≤ g) ∧
      ∀ {stk : List RF} {f : RF}, StR (Bp G sv) w stk l → FrR (Bp G sv) w f x → StR (Bp G sv') w' (f :: stk) (l ++ [x]) := by
  obtain ⟨sv', he, hm, ho, hb, hs⟩ := hp
  exact ⟨sv', he, ⟨hm, ho, h.gB, by have := h.bl; have := hb.size; omega, fun k hk => (hs k hk).elim (h.kS k) fun hle hkp => by have := h.mc.kl k hkp; omega⟩, hb, hs, fun h1 h2 => ⟨l, x, rfl, h2.step hb h.enF hs, h1.step hb h.enF hs⟩⟩

/-- the nodes that are read, and how far out names stand. -/
def TvR (B G : Nat) (w : World) (tv : Value) (ts : List Tg) : Prop := ∃ T off c, tv = .slice (some ⟨T, off, none⟩) ts.length c ∧ T < B ∧ T ≠ G ∧ T < w.heap.size ∧ TgSl w T off ts
def FvR (B G : Nat) (w : World) (fv : Value) (fur : List Int) : Prop := ∃ F c, fv = .slice (some ⟨F, 0, none⟩) fur.length c ∧ F < B ∧ F ≠ G ∧ F < w.heap.size ∧ ∀ i, i < fur.length → w.cell? ⟨F, i, none⟩ = some (.int .i64 (fur.getD i 0))
end Go.Proofs.Ytnjalpcmjkahkaa
