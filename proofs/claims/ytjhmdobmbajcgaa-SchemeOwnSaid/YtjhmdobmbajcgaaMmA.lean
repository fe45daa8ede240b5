/- What a matcher knows; its rows. -/
import Derived.Test.YtjhmdobmbajcgaaMpA
import Derived.Test.YtjhmdobmbajcgaaSmA
import Derived.Deep.RegionHeld3
import Derived.BigRegion
namespace Go.Proofs.Ytjhmdobmbajcgaa
open Go.RowKit Go.Maps
set_option linter.unusedVariables false
set_option linter.unusedSimpArgs false

def ShO (w : World) : Option TT → Option Nat → Prop
  | none, none => True
  | some T, some g => Shp w T g
  | _, _ => False
def ftV (ft : Int → Option Nat) (v : Int) : Option Value := (ft v).map ptrS
def rmV (r : Int → Option Rw) (v : Int) : Option Value := (r v).map fun q => .agg #[.int .i64 q.a, .int .i64 q.b, .int .i64 q.c, .int .i64 q.d, .int .i64 q.t]
/-- a matcher, in memory. -/
def MtAt (w : World) (gm b1 b2 n : Nat) (m : MS) : Prop :=
  gm < w.heap.size ∧ w.cell? ⟨gm, 0, none⟩ = some (.map (some b1)) ∧ w.cell? ⟨gm, 1, none⟩ = some (.map (some b2)) ∧ b1 ≠ b2 ∧ (∃ ft, MapOf w b1 n (ftV ft) ∧ ∀ v, ShO w (m.s v) (ft v)) ∧ MapOf w b2 n (rmV m.r)
theorem ShO.below {w w' : World} {T : Option TT} {g : Option Nat} (h : ShO w T g) (hb : Below w.heap.size w w') : ShO w' T g := by
  cases T <;> cases g <;> first | exact h | exact Shp.keep h hb
theorem MtAt.below {w w' : World} {gm b1 b2 n : Nat} {m : MS} (h : MtAt w gm b1 b2 n m) (hb : Below w.heap.size w w') : MtAt w' gm b1 b2 n m := by
  obtain ⟨h1, h2, h3, h4, ⟨ft, h5, h6⟩, h7⟩ := h
  exact ⟨by have := hb.size; omega, carry hb h1 h2, carry hb h1 h3, h4, ⟨ft, h5.below hb, fun v => (h6 v).below hb⟩, h7.below hb⟩
/-- a shape stays while maps turn. -/
theorem Shp.maps {w w' : World} {b1 b2 : Nat} (hb : Bar (fun k => k = b1 ∨ k = b2) w w') (m1 : ∃ es clock, w.heap[b1]? = some (.map es clock)) (m2 : ∃ es clock, w.heap[b2]? = some (.map es clock)) : ∀ {T : TT} {g : Nat}, Shp w T g → Shp w' T g := by
  have ne : ∀ {T : TT} {g : Nat}, Shp w T g → ¬ (g = b1 ∨ g = b2) := by
    intro T g h e
    obtain ⟨pa, pb, hk⟩ := h.blk
    obtain ⟨es1, c1, m1⟩ := m1
    obtain ⟨es2, c2, m2⟩ := m2
    unfold shB at hk
    rcases e with rfl | rfl
    · rw [m1] at hk; cases hk
    · rw [m2] at hk; cases hk
  have stay : ∀ {T : TT} {g : Nat}, Shp w T g → w'.heap[g]? = w.heap[g]? := fun h => hb.block _ h.lt (ne h)
  intro T
  induction T with
  | base k' => intro g h; exact ⟨h.1, by rw [stay h]; exact h.2⟩
  | var v' => intro g h; show w'.heap[g]? = _; rw [stay h]; exact h
  | fn a r b iha ihb =>
    intro g h
    have hst := stay h
    obtain ⟨ga, gb, h1, h2, h3⟩ := h
    exact ⟨ga, gb, by rw [hst]; exact h1, iha h2, ihb h3⟩
theorem MtAt.maps {w : World} {gm b1 b2 n : Nat} {m : MS} (h : MtAt w gm b1 b2 n m) : (∃ es clock, w.heap[b1]? = some (.map es clock)) ∧ ∃ es clock, w.heap[b2]? = some (.map es clock) := by
  obtain ⟨_, _, _, _, ⟨_, h5, _⟩, h7⟩ := h
  exact ⟨h5.blk, h7.blk⟩
theorem MtAt.shp {w w' : World} {gm b1 b2 n : Nat} {m : MS} (h : MtAt w gm b1 b2 n m) (hb : Bar (fun k => k = b1 ∨ k = b2) w w') {T : TT} {g : Nat} (hs : Shp w T g) : Shp w' T g := hs.maps hb h.maps.1 h.maps.2
theorem ShO.maps {w w' : World} {gm b1 b2 n : Nat} {m : MS} (h : MtAt w gm b1 b2 n m) (hb : Bar (fun k => k = b1 ∨ k = b2) w w') {T : Option TT} {g : Option Nat} (hs : ShO w T g) : ShO w' T g := by
  cases T <;> cases g <;> first | exact hs | exact h.shp hb hs
/-- a row more. -/
theorem MtAt.putR {w w' : World} {gm b1 b2 n : Nat} {m : MS} {t : Int} {q : Rw} (h : MtAt w gm b1 b2 n m) (hM : MapOf w' b2 (n + 1) (upd (rmV m.r) t (.agg #[.int .i64 q.a, .int .i64 q.b, .int .i64 q.c, .int .i64 q.d, .int .i64 q.t]))) (hb : Bar (fun k => k = b2) w w') : MtAt w' gm b1 b2 (n + 1) ⟨m.s, upd m.r t q⟩ := by
  have hb2 : Bar (fun k => k = b1 ∨ k = b2) w w' := hb.mono fun k hk => .inr hk
  have hsh := fun v ft (hs : ShO w (m.s v) ft) => ShO.maps h hb2 hs
  obtain ⟨h1, h2, h3, h4, ⟨ft, h5, h6⟩, h7⟩ := h
  refine ⟨by have := hb.size; omega, hb.cell h2 (h7.ne h2), hb.cell h3 (h7.ne h3), h4, ⟨ft, (h5.bar hb h4).mono (by omega), fun v => hsh v _ (h6 v)⟩, ?_⟩
  have e : rmV (upd m.r t q) = upd (rmV m.r) t (.agg #[.int .i64 q.a, .int .i64 q.b, .int .i64 q.c, .int .i64 q.d, .int .i64 q.t]) := by
    funext v; unfold rmV upd; split <;> rfl
  show MapOf w' b2 (n + 1) (rmV (upd m.r t q))
  rw [e]; exact hM
/-- a type more. -/
theorem MtAt.putS {w w' : World} {gm b1 b2 n g : Nat} {m : MS} {v : Int} {T : TT} (h : MtAt w gm b1 b2 n m) (hT : Shp w T g) (hM : ∀ ft, MapOf w b1 n (ftV ft) → MapOf w' b1 (n + 1) (upd (ftV ft) v (ptrS g))) (hb : Bar (fun k => k = b1) w w') : MtAt w' gm b1 b2 (n + 1) ⟨upd m.s v T, m.r⟩ := by
  have hb2 : Bar (fun k => k = b1 ∨ k = b2) w w' := hb.mono fun k hk => .inl hk
  have hsh := fun v ft (hs : ShO w (m.s v) ft) => ShO.maps h hb2 hs
  have hT' := h.shp hb2 hT
  obtain ⟨h1, h2, h3, h4, ⟨ft, h5, h6⟩, h7⟩ := h
  refine ⟨by have := hb.size; omega, hb.cell h2 (h5.ne h2), hb.cell h3 (h5.ne h3), h4, ⟨upd ft v g, ?_, ?_⟩, (h7.bar hb (fun e => h4 e.symm)).mono (by omega)⟩
  · have e : ftV (upd ft v g) = upd (ftV ft) v (ptrS g) := by
      funext u; unfold ftV upd; split <;> rfl
    rw [e]; exact hM ft h5
  · intro u
    show ShO w' (upd m.s v T u) (upd ft v g u)
    unfold upd
    by_cases hu : u = v
    · rw [if_pos hu, if_pos hu]; exact hT'
    · rw [if_neg hu, if_neg hu]; exact hsh u _ (h6 u)
/-- a row that may be written. -/
def RwFr (w : World) (g : Nat) (r : Rw) : Prop := RowAt w g r ∧ w.frozen? ⟨g, 0, none⟩ = false ∧ w.frozen? ⟨g, 1, none⟩ = false ∧ w.frozen? ⟨g, 2, none⟩ = false ∧ w.frozen? ⟨g, 3, none⟩ = false ∧ w.frozen? ⟨g, 4, none⟩ = false
theorem rwfr_lit (w : World) (T : TypeId) (g : Nat) (r : Rw) (hg : g = w.heap.size) : RwFr (w.alloc (.cells #[.int .i64 r.a, .int .i64 r.b, .int .i64 r.c, .int .i64 r.d, .int .i64 r.t] T)) g r := by
  subst hg
  exact ⟨row_lit _ _ _ _ rfl, by simp [go_sem], by simp [go_sem], by simp [go_sem], by simp [go_sem], by simp [go_sem]⟩
theorem RwFr.below {w w' : World} {g : Nat} {r : Rw} (h : RwFr w g r) (hb : Below w.heap.size w w') : RwFr w' g r := by
  obtain ⟨h0, h1, h2, h3, h4, h5⟩ := h
  have hl := h0.1
  exact ⟨h0.below hb, (hb.frozen (p := ⟨g, 0, none⟩) hl).trans h1, (hb.frozen (p := ⟨g, 1, none⟩) hl).trans h2, (hb.frozen (p := ⟨g, 2, none⟩) hl).trans h3, (hb.frozen (p := ⟨g, 3, none⟩) hl).trans h4, (hb.frozen (p := ⟨g, 4, none⟩) hl).trans h5⟩
theorem fz_set {w : World} {p q : Addr} {v : Value} {b : Bool} (h : w.frozen? q = b) : (w.setCell p v).frozen? q = b := by simpa [go_sem] using h
theorem RwFr.set {w : World} {g o : Nat} {v : Int} {a b c d t a' b' c' d' : Int} (h : RwFr w g ⟨a, b, c, d, t⟩) (ho : (o = 0 ∧ a' = v ∧ b' = b ∧ c' = c ∧ d' = d) ∨ (o = 1 ∧ a' = a ∧ b' = v ∧ c' = c ∧ d' = d) ∨ (o = 2 ∧ a' = a ∧ b' = b ∧ c' = v ∧ d' = d) ∨ (o = 3 ∧ a' = a ∧ b' = b ∧ c' = c ∧ d' = v)) : RwFr (w.setCell ⟨g, o, none⟩ (.int .i64 v)) g ⟨a', b', c', d', t⟩ := by
  obtain ⟨⟨h0, h1, h2, h3, h4, h5⟩, f1, f2, f3, f4, f5⟩ := h
  have hl : g < (w.setCell ⟨g, o, none⟩ (.int .i64 v)).heap.size := by simpa using h0
  have ne : ∀ i j : Nat, i ≠ j → (⟨g, i, none⟩ : Addr) ≠ ⟨g, j, none⟩ := by intro i j h e; injection e with _ e; exact h e
  refine ⟨?_, fz_set f1, fz_set f2, fz_set f3, fz_set f4, fz_set f5⟩
  rcases ho with ⟨rfl, rfl, rfl, rfl, rfl⟩ | ⟨rfl, rfl, rfl, rfl, rfl⟩ | ⟨rfl, rfl, rfl, rfl, rfl⟩ | ⟨rfl, rfl, rfl, rfl, rfl⟩
  · exact ⟨hl, setS h1, setO h2 (ne _ _ (by decide)), setO h3 (ne _ _ (by decide)), setO h4 (ne _ _ (by decide)), setO h5 (ne _ _ (by decide))⟩
  · exact ⟨hl, setO h1 (ne _ _ (by decide)), setS h2, setO h3 (ne _ _ (by decide)), setO h4 (ne _ _ (by decide)), setO h5 (ne _ _ (by decide))⟩
  · exact ⟨hl, setO h1 (ne _ _ (by decide)), setO h2 (ne _ _ (by decide)), setS h3, setO h4 (ne _ _ (by decide)), setO h5 (ne _ _ (by decide))⟩
  · exact ⟨hl, setO h1 (ne _ _ (by decide)), setO h2 (ne _ _ (by decide)), setO h3 (ne _ _ (by decide)), setS h4, setO h5 (ne _ _ (by decide))⟩
theorem RowAt.put {w : World} {g k o : Nat} {v : Value} {r : Rw} (h : RowAt w g r) (hn : g ≠ k) : RowAt (w.setCell ⟨k, o, none⟩ v) g r := by
  obtain ⟨h0, h1, h2, h3, h4, h5⟩ := h
  have ne : ∀ q, (⟨k, o, none⟩ : Addr) ≠ ⟨g, q, none⟩ := by intro q e; injection e with e; omega
  exact ⟨by simpa using h0, setO h1 (ne _), setO h2 (ne _), setO h3 (ne _), setO h4 (ne _), setO h5 (ne _)⟩
def subK : Nat → Rw → Rw → Rw
  | 0, s, _ => s
  | 1, s, g => ⟨s.a - g.a, s.b, s.c, s.d, s.t⟩
  | 2, s, g => ⟨s.a - g.a, s.b - g.b, s.c, s.d, s.t⟩
  | 3, s, g => ⟨s.a - g.a, s.b - g.b, s.c - g.c, s.d, s.t⟩
  | _, s, g => subRw s g
end Go.Proofs.Ytjhmdobmbajcgaa
