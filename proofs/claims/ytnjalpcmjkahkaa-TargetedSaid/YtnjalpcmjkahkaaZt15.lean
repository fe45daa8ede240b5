/- The reference's engine for targets: its values in memory. -/
import Derived.Test.YtnjalpcmjkahkaaZt9
import Derived.Test.YtnjalpcmjkahkaaZt14
set_option maxRecDepth 100000
set_option maxHeartbeats 8000000
namespace Go.Proofs.Ytnjalpcmjkahkaa
open Go.RowKit
set_option linter.unusedVariables false
set_option linter.unusedSimpArgs false
structure V7 where
 k : Int
 n : Int
 nd : Int
 en : Option Addr
 one : Option Addr
 two : Option Addr
def v70 : V7 := ⟨0, 0, 0, none, none, none⟩
def V7.val (t : V7) : Value := .agg #[.int .i64 t.k, .int .i64 t.n, .int .i64 t.nd, .pointer t.en, .slice none 0 0, .pointer t.one, .pointer t.two]
def VCo (W : World) (g o : Nat) (t : V7) : Prop := W.cell? ⟨g, o, none⟩ = some (.int .i64 t.k) ∧ W.cell? ⟨g, o + 1, none⟩ = some (.int .i64 t.n) ∧ W.cell? ⟨g, o + 2, none⟩ = some (.int .i64 t.nd) ∧ W.cell? ⟨g, o + 3, none⟩ = some (.pointer t.en) ∧
 W.cell? ⟨g, o + 4, none⟩ = some (.slice none 0 0) ∧ W.cell? ⟨g, o + 5, none⟩ = some (.pointer t.one) ∧ W.cell? ⟨g, o + 6, none⟩ = some (.pointer t.two)
theorem VCo.bar {S : Nat → Prop} {W W' : World} {g o : Nat} {t : V7} (h : VCo W g o t) (hb : Bar S W W') (hn : ¬ S g) : VCo W' g o t :=
 ⟨hb.cell h.1 hn, hb.cell h.2.1 hn, hb.cell h.2.2.1 hn, hb.cell h.2.2.2.1 hn, hb.cell h.2.2.2.2.1 hn, hb.cell h.2.2.2.2.2.1 hn, hb.cell h.2.2.2.2.2.2 hn⟩
def VBx (W : World) (p : Option Addr) (t : V7) : Prop := ∃ g, p = some ⟨g, 0, none⟩ ∧ g < W.heap.size ∧ TyAt W g 67 ∧ VCo W g 0 t
def VR (W : World) : NV → V7 ⊕ Option Addr → Prop
 | .num n, x => x = .inl ⟨0, n, 0, none, none, none⟩
 | .tru n, x => x = .inl ⟨1, n, 0, none, none, none⟩
 | .fn nd e, x => ∃ p, x = .inl ⟨2, 0, nd, p, none, none⟩ ∧ VR W e (.inr p)
 | .bnd nd e f, x => ∃ p a t, x = .inl ⟨7, 0, nd, p, a, none⟩ ∧ VR W e (.inr p) ∧ VBx W a t ∧ VR W f (.inl t)
 | .fwd f who, x => ∃ a t b u, x = .inl ⟨8, 0, 0, none, a, b⟩ ∧ VBx W a t ∧ VR W who (.inl t) ∧ VBx W b u ∧ VR W f (.inl u)
 | .ret v, x => ∃ a t, x = .inl ⟨5, 0, 0, none, a, none⟩ ∧ VBx W a t ∧ VR W v (.inl t)
 | .op n v f, x => ∃ a t b u, x = .inl ⟨6, n, 0, none, a, b⟩ ∧ VBx W a t ∧ VR W v (.inl t) ∧ VBx W b u ∧ VR W f (.inl u)
 | .nil, x => x = .inr none
 | .cons y v r, x => ∃ g t p, x = .inr (some ⟨g, 0, none⟩) ∧ g < W.heap.size ∧ TyAt W g 110 ∧ (W.cell? ⟨g, 0, none⟩ = some (.int .i64 y) ∧ VCo W g 1 t ∧ W.cell? ⟨g, 8, none⟩ = some (.pointer p)) ∧ (∀ a, p = some a → a.block < g) ∧ VR W v (.inl t) ∧ VR W r (.inr p)
def VF (S : Nat → Prop) (W : World) : Prop := ∀ g, S g → ¬ TyAt W g 67 ∧ ¬ TyAt W g 110
theorem VBx.bar {S : Nat → Prop} {W W' : World} {p : Option Addr} {t : V7} (h : VBx W p t) (hb : Bar S W W') (hS : VF S W) : VBx W' p t := by
 obtain ⟨g, rfl, hg, hT, hc⟩ := h
 have hn : ¬ S g := fun hs => (hS g hs).1 hT
 exact ⟨g, rfl, Nat.lt_of_lt_of_le hg hb.size, hT.bar hb hn, hc.bar hb hn⟩
theorem VR.bar {S : Nat → Prop} {W W' : World} (hb : Bar S W W') (hS : VF S W) : ∀ {v : NV} {x : V7 ⊕ Option Addr}, VR W v x → VR W' v x
 | .num _, _, h => h
 | .tru _, _, h => h
 | .fn _ _, _, ⟨p, hx, h⟩ => ⟨p, hx, VR.bar hb hS h⟩
 | .bnd _ _ _, _, ⟨p, a, t, hx, he, ha, hf⟩ => ⟨p, a, t, hx, VR.bar hb hS he, ha.bar hb hS, VR.bar hb hS hf⟩
 | .fwd _ _, _, ⟨a, t, b, u, hx, ha, hv, hb2, hf⟩ => ⟨a, t, b, u, hx, ha.bar hb hS, VR.bar hb hS hv, hb2.bar hb hS, VR.bar hb hS hf⟩
 | .ret _, _, ⟨a, t, hx, ha, hv⟩ => ⟨a, t, hx, ha.bar hb hS, VR.bar hb hS hv⟩
 | .op _ _ _, _, ⟨a, t, b, u, hx, ha, hv, hb2, hf⟩ => ⟨a, t, b, u, hx, ha.bar hb hS, VR.bar hb hS hv, hb2.bar hb hS, VR.bar hb hS hf⟩
 | .nil, _, h => h
 | .cons _ _ _, _, ⟨g, t, p, hx, hg, hT, ⟨h0, h1, h8⟩, hp, hv, hr⟩ => by
  have hn : ¬ S g := fun hs => (hS g hs).2 hT
  exact ⟨g, t, p, hx, Nat.lt_of_lt_of_le hg hb.size, hT.bar hb hn, ⟨hb.cell h0 hn, h1.bar hb hn, hb.cell h8 hn⟩, hp, VR.bar hb hS hv, VR.bar hb hS hr⟩
theorem vf_no (W : World) : VF (fun _ => False) W := fun _ h => h.elim
theorem VR.below {W W' : World} {v : NV} {x : V7 ⊕ Option Addr} (h : VR W v x) (hb : Below W.heap.size W W') : VR W' v x := h.bar (Bar.of_below (S := fun _ => False) hb) (vf_no W)
theorem VBx.below {W W' : World} {p : Option Addr} {t : V7} (h : VBx W p t) (hb : Below W.heap.size W W') : VBx W' p t := h.bar (Bar.of_below (S := fun _ => False) hb) (vf_no W)
open Go.RowKit
structure Th where
 a : Int
 b : Int
 c : Option Addr
 d : Option Addr
 e : Option Addr
def Th.val (t : Th) : Value := .agg #[.int .i64 t.a, .int .i64 t.b, .pointer t.c, .pointer t.d, .pointer t.e]
def ThC (W : World) (g : Nat) (t : Th) : Prop := W.cell? ⟨g, 0, none⟩ = some (.int .i64 t.a) ∧ W.cell? ⟨g, 1, none⟩ = some (.int .i64 t.b) ∧ W.cell? ⟨g, 2, none⟩ = some (.pointer t.c) ∧ W.cell? ⟨g, 3, none⟩ = some (.pointer t.d) ∧ W.cell? ⟨g, 4, none⟩ = some (.pointer t.e)
theorem ThC.bar {S : Nat → Prop} {W W' : World} {g : Nat} {t : Th} (h : ThC W g t) (hb : Bar S W W') (hn : ¬ S g) : ThC W' g t :=
 ⟨hb.cell h.1 hn, hb.cell h.2.1 hn, hb.cell h.2.2.1 hn, hb.cell h.2.2.2.1 hn, hb.cell h.2.2.2.2 hn⟩
def TrR (W : World) : Nat → Value → List Th → Prop
 | 0, p, l => p = .pointer none ∧ l = []
 | k + 1, p, l => ∃ (g : Nat) (t : Th) (i o : Value) (l1 l2 : List Th), p = .pointer (some ⟨g, 0, none⟩) ∧ g < W.heap.size ∧ TyAt W g 145 ∧
   (ThC W g t ∧ W.cell? ⟨g, 5, none⟩ = some i ∧ W.cell? ⟨g, 6, none⟩ = some o) ∧
   TrR W k i l1 ∧ TrR W k o l2 ∧ l = t :: (l1 ++ l2)
def PtR (W : World) : List Nat → Value → List Th → Prop
 | [], p, l => p = .pointer none ∧ l = []
 | k :: ks, p, l => ∃ (g : Nat) (i o : Value) (l1 l2 : List Th), p = .pointer (some ⟨g, 0, none⟩) ∧ g < W.heap.size ∧ TyAt W g 142 ∧
   (W.cell? ⟨g, 0, none⟩ = some (.int .i64 l1.length) ∧ W.cell? ⟨g, 1, none⟩ = some i ∧ W.cell? ⟨g, 2, none⟩ = some o) ∧
   TrR W (k + 1) i l1 ∧ PtR W ks o l2 ∧ l = l1 ++ l2
def EnR (W : World) (p : Value) (l : List Th) : Prop := ∃ ks, PtR W ks p l
theorem TrR.len {W : World} : ∀ {k : Nat} {p : Value} {l : List Th}, TrR W k p l → l.length + 1 = 2 ^ k
 | 0, _, _, h => by obtain ⟨_, rfl⟩ := h; rfl
 | k + 1, _, _, h => by
  obtain ⟨g, t, i, o, l1, l2, _, _, _, _, h1, h2, rfl⟩ := h
  have e1 := h1.len; have e2 := h2.len
  rw [List.length_cons, List.length_append, Nat.pow_succ]; omega
def EnF (S : Nat → Prop) (W : World) : Prop := ∀ g, S g → ¬ TyAt W g 145 ∧ ¬ TyAt W g 142
theorem TrR.bar {S : Nat → Prop} {W W' : World} (hb : Bar S W W') (hS : EnF S W) : ∀ {k : Nat} {p : Value} {l : List Th}, TrR W k p l → TrR W' k p l
 | 0, _, _, h => h
 | k + 1, _, _, h => by
  obtain ⟨g, t, i, o, l1, l2, rfl, hg, hT, ⟨c0, c5, c6⟩, h1, h2, rfl⟩ := h
  have hn : ¬ S g := fun hs => (hS g hs).1 hT
  exact ⟨g, t, i, o, l1, l2, rfl, by have := hb.size; omega, hT.bar hb hn, ⟨c0.bar hb hn, hb.cell c5 hn, hb.cell c6 hn⟩, h1.bar hb hS, h2.bar hb hS, rfl⟩
theorem PtR.bar {S : Nat → Prop} {W W' : World} (hb : Bar S W W') (hS : EnF S W) : ∀ {ks : List Nat} {p : Value} {l : List Th}, PtR W ks p l → PtR W' ks p l
 | [], _, _, h => h
 | k :: ks, _, _, h => by
  obtain ⟨g, i, o, l1, l2, rfl, hg, hT, ⟨c0, c1, c2⟩, h1, h2, rfl⟩ := h
  have hn : ¬ S g := fun hs => (hS g hs).2 hT
  exact ⟨g, i, o, l1, l2, rfl, by have := hb.size; omega, hT.bar hb hn, ⟨hb.cell c0 hn, hb.cell c1 hn, hb.cell c2 hn⟩, TrR.bar hb hS h1, h2.bar hb hS, rfl⟩
theorem EnR.bar {S : Nat → Prop} {W W' : World} {p : Value} {l : List Th} (h : EnR W p l) (hb : Bar S W W') (hS : EnF S W) : EnR W' p l := by
 obtain ⟨ks, h⟩ := h; exact ⟨ks, h.bar hb hS⟩
theorem enF_no (W : World) : EnF (fun _ => False) W := fun _ h => h.elim
theorem EnR.below {W W' : World} {p : Value} {l : List Th} (h : EnR W p l) (hb : Below W.heap.size W W') : EnR W' p l := h.bar (Bar.of_below (S := fun _ => False) hb) (enF_no W)
theorem TrR.below {W W' : World} {k : Nat} {p : Value} {l : List Th} (h : TrR W k p l) (hb : Below W.heap.size W W') : TrR W' k p l := h.bar (Bar.of_below (S := fun _ => False) hb) (enF_no W)
theorem EnR.nil (W : World) : EnR W (.pointer none) [] := ⟨[], rfl, rfl⟩
end Go.Proofs.Ytnjalpcmjkahkaa
