/- SchemeForms: what stands behind its nine ways. -/
import Derived.Test.YtjhmdobmbajcgaaFmW
namespace Go.Proofs.Ytjhmdobmbajcgaa
open Go.RowKit
set_option linter.unusedVariables false
set_option linter.unusedSimpArgs false

def Mid12 (w : World) (b : Nat) (s9 s10 : Value) (W : World) : Prop := ∃ (a1 : Option Addr) (n1 c1 : Nat) (a2 : Option Addr) (n2 c2 : Nat) (a3 : Option Addr) (n3 c3 : Nat) (a9 : Option Addr) (n9 c9 : Nat) (a10 : Option Addr) (n10 c10 : Nat) (ks ms : List Int) (ts : List Ty) (xs : List Tp) (rs : List Rw),
  (s9 = .slice a9 n9 c9 ∧ s10 = .slice a10 n10 c10 ∧ ScAt W (b + 1 + 1 + 1 + 1) (.slice a1 n1 c1) (.slice a2 n2 c2) (.slice a3 n3 c3)) ∧ (IsArg W a1 n1 ks ∧ IsArg W a2 n2 ms ∧ TyArg W a3 n3 ts ∧ TpArg W a9 n9 xs ∧ RwArg W a10 n10 rs) ∧ ((∀ x ∈ ks, (Lit.int .i64 x).wf = true) ∧ (∀ x ∈ ms, (Lit.int .i64 x).wf = true)) ∧ (n1 ≤ 3 ∧ n2 ≤ 3 ∧ n3 ≤ 3 ∧ n9 ≤ 3 ∧ n10 ≤ 3) ∧ NoTk ks xs ms rs ts ∧ Below w.heap.size w W
theorem ad_eq {g q off : Nat} (h : (some ⟨g, 0, none⟩ : Option Addr) = some ⟨q, off, none⟩) : g = q := by injection h with h; injection h
theorem fx_ad {b : Nat} : ∀ x ∈ [fX b, fX b], ∀ q off, x.ad = some ⟨q, off, none⟩ → b + 1 + 1 + 1 + 1 + 1 = q := by
  intro x hx q off h
  have hx : x = fX b := by simpa using hx
  subst hx
  exact ad_eq h
theorem wf_bd {x : Int} (h : -5000 ≤ x ∧ x ≤ 6000) : (Lit.int .i64 x).wf = true := by
  simp [Lit.wf, IntKind.min, IntKind.max, IntKind.signed, IntKind.bits]; omega
theorem wf1 {x : Int} (h : -5000 ≤ x ∧ x ≤ 6000) : ∀ u ∈ [x], (Lit.int .i64 u).wf = true := by
  intro u hu
  obtain rfl : u = x := by simpa using hu
  exact wf_bd h
theorem wf2 {x y : Int} (h : -5000 ≤ x ∧ x ≤ 6000) (h' : -5000 ≤ y ∧ y ≤ 6000) : ∀ u ∈ [x, y], (Lit.int .i64 u).wf = true := by
  intro u hu
  have hu : u = x ∨ u = y := by simpa using hu
  rcases hu with rfl | rfl
  · exact wf_bd h
  · exact wf_bd h'
theorem isArg_get {W : World} {g n : Nat} {l : List Int} (h : IsArg W (some ⟨g, 0, none⟩) n l) {j : Nat} (hj : j < l.length) : W.cell? ⟨g, j, none⟩ = some (.int .i64 (l.getD j 0)) := by
  obtain ⟨h1, rfl | ⟨q, off, h2, h3, h4⟩⟩ := h
  · simp at hj
  · injection h2 with h2; injection h2 with h5 h6 _; subst h5; subst h6
    simpa using h3 j hj
theorem isArg1 {W : World} {g : Nat} {x : Int} (h0 : W.cell? ⟨g, 0, none⟩ = some (.int .i64 x)) : IsArg W (some ⟨g, 0, none⟩) 1 [x] := by
  refine ⟨rfl, .inr ⟨g, 0, rfl, fun i hi => ?_, World.block_lt_of_cell? _ _ h0⟩⟩
  have hi : i < 1 := hi
  obtain rfl : i = 0 := by omega
  exact h0
theorem isArg2 {W : World} {g : Nat} {x y : Int} (h0 : W.cell? ⟨g, 0, none⟩ = some (.int .i64 x)) (h1 : W.cell? ⟨g, 1, none⟩ = some (.int .i64 y)) : IsArg W (some ⟨g, 0, none⟩) 2 [x, y] := by
  refine ⟨rfl, .inr ⟨g, 0, rfl, fun i hi => ?_, World.block_lt_of_cell? _ _ h0⟩⟩
  have hi : i < 2 := hi
  have hcs : i = 0 ∨ i = 1 := by omega
  rcases hcs with rfl | rfl
  · exact h0
  · exact h1
theorem mid0 {w W : World} {b : Nat} (h : FmW b W) (hb : w.heap.size ≤ b) (hB : Below w.heap.size w W) {d : Int} (hd : 1 ≤ d ∧ d ≤ 1024) : Mid12 w b (.slice (some ⟨b + 1 + 1 + 1 + 1 + 1 + 1 + 1, 0, none⟩) 2 2) (.slice (some ⟨b + 1 + 1 + 1 + 1 + 1 + 1 + 1 + 1, 0, none⟩) 1 1) (W.setCell ⟨b + 1 + 1, 0, none⟩ (.int .i64 (-d))) := by
  have hbar : Bar (fun k => k = b + 1 + 1) W (W.setCell ⟨b + 1 + 1, 0, none⟩ (.int .i64 (-d))) := Bar.set _ _ rfl
  refine ⟨_, _, _, _, _, _, _, _, _, _, _, _, _, _, _, [-d, 2], [3], fT, [fX b, fX b], [fR], ⟨rfl, rfl, h.sc.bar hbar (by show ¬ (_ = _); omega)⟩, ⟨isArg2 (setS (isArg_get h.ks (j := 0) (by simp))) (setO (isArg_get h.ks (j := 1) (by simp)) (by simp)), h.ms.bar hbar (by intro q1 q2 q3; have q4 := ad_eq q3; intro q5; have q5 : q1 = _ := q5; omega), h.ty.bar hbar (by intro q1 q2 q3; have q4 := ad_eq q3; intro q5; have q5 : q1 = _ := q5; omega), h.tp.bar hbar (by intro q1 q2 q3; have q4 := ad_eq q3; intro q5; have q5 : q1 = _ := q5; omega) (by intro x hx q1 q2 q3; have q4 := fx_ad x hx q1 q2 q3; intro q5; have q5 : q1 = _ := q5; omega), h.rw.bar hbar (by intro q1 q2 q3; have q4 := ad_eq q3; intro q5; have q5 : q1 = _ := q5; omega)⟩, ⟨wf2 (by omega) (by omega), wf1 (by omega)⟩, ⟨by omega, by omega, by omega, by omega, by omega⟩, fm0 d hd.1 _ _ _ _, hB.setCell (by show w.heap.size ≤ b + 1 + 1; omega) _⟩
theorem mid1 {w W : World} {b : Nat} (h : FmW b W) (hb : w.heap.size ≤ b) (hB : Below w.heap.size w W) : Mid12 w b (.slice (some ⟨b + 1 + 1 + 1 + 1 + 1 + 1 + 1, 0, none⟩) 2 2) (.slice (some ⟨b + 1 + 1 + 1 + 1 + 1 + 1 + 1 + 1, 0, none⟩) 1 1) (W.setCell ⟨b + 1 + 1, 1, none⟩ (.int .i64 1)) := by
  have hbar : Bar (fun k => k = b + 1 + 1) W (W.setCell ⟨b + 1 + 1, 1, none⟩ (.int .i64 1)) := Bar.set _ _ rfl
  refine ⟨_, _, _, _, _, _, _, _, _, _, _, _, _, _, _, [1, 1], [3], fT, [fX b, fX b], [fR], ⟨rfl, rfl, h.sc.bar hbar (by show ¬ (_ = _); omega)⟩, ⟨isArg2 (setO (isArg_get h.ks (j := 0) (by simp)) (by simp)) (setS (isArg_get h.ks (j := 1) (by simp))), h.ms.bar hbar (by intro q1 q2 q3; have q4 := ad_eq q3; intro q5; have q5 : q1 = _ := q5; omega), h.ty.bar hbar (by intro q1 q2 q3; have q4 := ad_eq q3; intro q5; have q5 : q1 = _ := q5; omega), h.tp.bar hbar (by intro q1 q2 q3; have q4 := ad_eq q3; intro q5; have q5 : q1 = _ := q5; omega) (by intro x hx q1 q2 q3; have q4 := fx_ad x hx q1 q2 q3; intro q5; have q5 : q1 = _ := q5; omega), h.rw.bar hbar (by intro q1 q2 q3; have q4 := ad_eq q3; intro q5; have q5 : q1 = _ := q5; omega)⟩, ⟨wf2 (by omega) (by omega), wf1 (by omega)⟩, ⟨by omega, by omega, by omega, by omega, by omega⟩, fm1 _ _ _ _, hB.setCell (by show w.heap.size ≤ b + 1 + 1; omega) _⟩
theorem mid2 {w W : World} {b : Nat} (h : FmW b W) (hb : w.heap.size ≤ b) (hB : Below w.heap.size w W) {d : Int} (hd : 1 ≤ d ∧ d ≤ 1024) : Mid12 w b (.slice (some ⟨b + 1 + 1 + 1 + 1 + 1 + 1 + 1, 0, none⟩) 2 2) (.slice (some ⟨b + 1 + 1 + 1 + 1 + 1 + 1 + 1 + 1, 0, none⟩) 1 1) (W.setCell ⟨b + 1 + 1 + 1, 0, none⟩ (.int .i64 (4095 + d))) := by
  have hbar : Bar (fun k => k = b + 1 + 1 + 1) W (W.setCell ⟨b + 1 + 1 + 1, 0, none⟩ (.int .i64 (4095 + d))) := Bar.set _ _ rfl
  refine ⟨_, _, _, _, _, _, _, _, _, _, _, _, _, _, _, [1, 2], [4095 + d], fT, [fX b, fX b], [fR], ⟨rfl, rfl, h.sc.bar hbar (by show ¬ (_ = _); omega)⟩, ⟨h.ks.bar hbar (by intro q1 q2 q3; have q4 := ad_eq q3; intro q5; have q5 : q1 = _ := q5; omega), isArg1 (setS (isArg_get h.ms (j := 0) (by simp))), h.ty.bar hbar (by intro q1 q2 q3; have q4 := ad_eq q3; intro q5; have q5 : q1 = _ := q5; omega), h.tp.bar hbar (by intro q1 q2 q3; have q4 := ad_eq q3; intro q5; have q5 : q1 = _ := q5; omega) (by intro x hx q1 q2 q3; have q4 := fx_ad x hx q1 q2 q3; intro q5; have q5 : q1 = _ := q5; omega), h.rw.bar hbar (by intro q1 q2 q3; have q4 := ad_eq q3; intro q5; have q5 : q1 = _ := q5; omega)⟩, ⟨wf2 (by omega) (by omega), wf1 (by omega)⟩, ⟨by omega, by omega, by omega, by omega, by omega⟩, fm2 d hd.1 _ _ _ _, hB.setCell (by show w.heap.size ≤ b + 1 + 1 + 1; omega) _⟩
theorem tp_less {b : Nat} {W : World} (h : FmW b W) : TpArg W (some ⟨b + 1 + 1 + 1 + 1 + 1 + 1 + 1, 0, none⟩) 1 [fX b] := by
  obtain ⟨_, h2 | ⟨q, off, h2, h3, h4⟩⟩ := h.tp
  · cases h2
  · refine ⟨rfl, .inr ⟨q, off, h2, fun i hi => ?_, h4⟩⟩
    have hi : i < 1 := hi
    obtain rfl : i = 0 := by omega
    exact h3 0 (by simp)
theorem mid3 {w W : World} {b : Nat} (h : FmW b W) (hb : w.heap.size ≤ b) (hB : Below w.heap.size w W) : Mid12 w b (.slice (some ⟨b + 1 + 1 + 1 + 1 + 1 + 1 + 1, 0, none⟩) 1 2) (.slice (some ⟨b + 1 + 1 + 1 + 1 + 1 + 1 + 1 + 1, 0, none⟩) 1 1) W := by
  refine ⟨_, _, _, _, _, _, _, _, _, _, _, _, _, _, _, [1, 2], [3], fT, [fX b], [fR], ⟨rfl, rfl, h.sc⟩, ⟨h.ks, h.ms, h.ty, tp_less h, h.rw⟩, ⟨wf2 (by omega) (by omega), wf1 (by omega)⟩, ⟨by omega, by omega, by omega, by omega, by omega⟩, noTk_x (by simp), hB⟩
theorem mid5 {w W : World} {b : Nat} (h : FmW b W) (hb : w.heap.size ≤ b) (hB : Below w.heap.size w W) : Mid12 w b (.slice (some ⟨b + 1 + 1 + 1 + 1 + 1 + 1 + 1, 0, none⟩) 2 2) (.slice none 0 0) W := by
  refine ⟨_, _, _, _, _, _, _, _, _, _, _, _, _, _, _, [1, 2], [3], fT, [fX b, fX b], [], ⟨rfl, rfl, h.sc⟩, ⟨h.ks, h.ms, h.ty, h.tp, rwArg_nil _ _⟩, ⟨wf2 (by omega) (by omega), wf1 (by omega)⟩, ⟨by omega, by omega, by omega, by omega, by omega⟩, noTk_r (by simp), hB⟩
theorem mid6 {w W : World} {b : Nat} (h : FmW b W) (hb : w.heap.size ≤ b) (hB : Below w.heap.size w W) {d : Int} (hd : 1 ≤ d ∧ d ≤ 1024) : Mid12 w b (.slice (some ⟨b + 1 + 1 + 1 + 1 + 1 + 1 + 1, 0, none⟩) 2 2) (.slice (some ⟨W.heap.size, 0, none⟩) 1 1) (W.alloc (.cells #[.int .i64 0, .int .i64 0, .int .i64 0, .int .i64 0, .int .i64 (-1 - d)] 28)) := by
  refine ⟨_, _, _, _, _, _, _, _, _, _, _, _, _, _, _, [1, 2], [3], fT, [fX b, fX b], [⟨0, 0, 0, 0, -1 - d⟩], ⟨rfl, rfl, (h.sc.alloc _)⟩, ⟨(h.ks.alloc _), (h.ms.alloc _), (h.ty.alloc _), h.tp.alloc _, rwArg_one _ _ _ ⟨0, 0, 0, 0, -1 - d⟩ rfl⟩, ⟨wf2 (by omega) (by omega), wf1 (by omega)⟩, ⟨by omega, by omega, by omega, by omega, by omega⟩, fm6 d hd.1 b _, belA _ hB⟩
theorem tp_set {b : Nat} {W : World} (h : FmW b W) : TpArg (W.setCell ⟨b + 1 + 1 + 1 + 1 + 1 + 1 + 1, 1, none⟩ (.slice none 0 0)) (some ⟨b + 1 + 1 + 1 + 1 + 1 + 1 + 1, 0, none⟩) 2 [fX b, tp0] := by
  have hbar : Bar (fun k => k = b + 1 + 1 + 1 + 1 + 1 + 1 + 1) W (W.setCell ⟨b + 1 + 1 + 1 + 1 + 1 + 1 + 1, 1, none⟩ (.slice none 0 0)) := Bar.set _ _ rfl
  obtain ⟨_, h2 | ⟨q, off, h2, h3, h4⟩⟩ := h.tp
  · cases h2
  · injection h2 with h2; injection h2 with h5 h6 _; subst h5; subst h6
    refine ⟨rfl, .inr ⟨_, _, rfl, fun i hi => ?_, by simpa using h4⟩⟩
    have hi : i < 2 := hi
    have hcs : i = 0 ∨ i = 1 := by omega
    rcases hcs with rfl | rfl
    · exact ⟨setO (h3 0 (by simp)).1 (by simp), (h3 0 (by simp)).2.bar hbar (by intro q1 q2 q3; have q4 := ad_eq q3; intro q5; have q5 : q1 = _ := q5; omega)⟩
    · exact ⟨setS (h3 1 (by simp)).1, tyArg_nil _ _, by show (0 : Nat) ≤ 140737488351232; omega⟩
theorem mid7 {w W : World} {b : Nat} (h : FmW b W) (hb : w.heap.size ≤ b) (hB : Below w.heap.size w W) : Mid12 w b (.slice (some ⟨b + 1 + 1 + 1 + 1 + 1 + 1 + 1, 0, none⟩) 2 2) (.slice (some ⟨b + 1 + 1 + 1 + 1 + 1 + 1 + 1 + 1, 0, none⟩) 1 1) (W.setCell ⟨b + 1 + 1 + 1 + 1 + 1 + 1 + 1, 1, none⟩ (.slice none 0 0)) := by
  have hbar : Bar (fun k => k = b + 1 + 1 + 1 + 1 + 1 + 1 + 1) W (W.setCell ⟨b + 1 + 1 + 1 + 1 + 1 + 1 + 1, 1, none⟩ (.slice none 0 0)) := Bar.set _ _ rfl
  refine ⟨_, _, _, _, _, _, _, _, _, _, _, _, _, _, _, [1, 2], [3], fT, [fX b, tp0], [fR], ⟨rfl, rfl, h.sc.bar hbar (by show ¬ (_ = _); omega)⟩, ⟨h.ks.bar hbar (by intro q1 q2 q3; have q4 := ad_eq q3; intro q5; have q5 : q1 = _ := q5; omega), h.ms.bar hbar (by intro q1 q2 q3; have q4 := ad_eq q3; intro q5; have q5 : q1 = _ := q5; omega), h.ty.bar hbar (by intro q1 q2 q3; have q4 := ad_eq q3; intro q5; have q5 : q1 = _ := q5; omega), tp_set h, h.rw.bar hbar (by intro q1 q2 q3; have q4 := ad_eq q3; intro q5; have q5 : q1 = _ := q5; omega)⟩, ⟨wf2 (by omega) (by omega), wf1 (by omega)⟩, ⟨by omega, by omega, by omega, by omega, by omega⟩, fm7 b _, hB.setCell (by show w.heap.size ≤ b + 1 + 1 + 1 + 1 + 1 + 1 + 1; omega) _⟩
theorem mid8 {w W : World} {b : Nat} (h : FmW b W) (hb : w.heap.size ≤ b) (hB : Below w.heap.size w W) {d : Int} (hd : 1 ≤ d ∧ d ≤ 1024) : Mid12 w b (.slice (some ⟨b + 1 + 1 + 1 + 1 + 1 + 1 + 1, 0, none⟩) 2 2) (.slice (some ⟨b + 1 + 1 + 1 + 1 + 1 + 1 + 1 + 1, 0, none⟩) 1 1) ((W.setCell ⟨b + 1 + 1 + 1 + 1, 2, none⟩ (.slice (some ⟨W.heap.size, 0, none⟩) 1 1)).alloc (.cells #[.int .i64 0, .int .i64 d, .int .i64 0, .int .i64 0, .int .i64 0, .int .i64 0, .int .i64 0, .int .i64 0, .int .i64 0] 47)) := by
  have hbar : Bar (fun k => k = b + 1 + 1 + 1 + 1) W (W.setCell ⟨b + 1 + 1 + 1 + 1, 2, none⟩ (.slice (some ⟨W.heap.size, 0, none⟩) 1 1)) := Bar.set _ _ rfl
  have hsc : ScAt (W.setCell ⟨b + 1 + 1 + 1 + 1, 2, none⟩ (.slice (some ⟨W.heap.size, 0, none⟩) 1 1)) (b + 1 + 1 + 1 + 1) (.slice (some ⟨b + 1 + 1, 0, none⟩) 2 2) (.slice (some ⟨b + 1 + 1 + 1, 0, none⟩) 1 1) (.slice (some ⟨W.heap.size, 0, none⟩) 1 1) := ⟨by simpa using h.sc.1, setO h.sc.2.1 (by simp), setO h.sc.2.2.1 (by simp), setS h.sc.2.2.2⟩
  have hsz : W.heap.size = (W.setCell ⟨b + 1 + 1 + 1 + 1, 2, none⟩ (.slice (some ⟨W.heap.size, 0, none⟩) 1 1)).heap.size := by simp
  have hB1 : Below w.heap.size w (W.setCell ⟨b + 1 + 1 + 1 + 1, 2, none⟩ (.slice (some ⟨W.heap.size, 0, none⟩) 1 1)) := hB.setCell (by show w.heap.size ≤ b + 1 + 1 + 1 + 1; omega) _
  generalize (W.setCell ⟨b + 1 + 1 + 1 + 1, 2, none⟩ (.slice (some ⟨W.heap.size, 0, none⟩) 1 1)) = W1 at hbar hsc hsz hB1 ⊢
  refine ⟨_, _, _, _, _, _, _, _, _, _, _, _, _, _, _, [1, 2], [3], [⟨0, d, 0, 0, 0, 0, 0, 0, 0⟩], [fX b, fX b], [fR], ⟨rfl, rfl, hsc.alloc _⟩, ⟨(h.ks.bar hbar (by intro q1 q2 q3; have q4 := ad_eq q3; intro q5; have q5 : q1 = _ := q5; omega)).alloc _, (h.ms.bar hbar (by intro q1 q2 q3; have q4 := ad_eq q3; intro q5; have q5 : q1 = _ := q5; omega)).alloc _, tyArg_lit _ _ _ _ _ _ hsz rfl rfl, (h.tp.bar hbar (by intro q1 q2 q3; have q4 := ad_eq q3; intro q5; have q5 : q1 = _ := q5; omega) (by intro x hx q1 q2 q3; have q4 := fx_ad x hx q1 q2 q3; intro q5; have q5 : q1 = _ := q5; omega)).alloc _, (h.rw.bar hbar (by intro q1 q2 q3; have q4 := ad_eq q3; intro q5; have q5 : q1 = _ := q5; omega)).alloc _⟩, ⟨wf2 (by omega) (by omega), wf1 (by omega)⟩, ⟨by omega, by omega, by omega, by omega, by omega⟩, fm8 d hd.1 _ _ _ _, belA _ hB1⟩
theorem infoTp : (Try.prog.info? 25).map (fun i => (i.zero, i.size, i.bytes)) = some (some (.agg #[.slice none 0 0]), 1, 24) := by kernel_rfl
def tp3 (b : Nat) : List Value := [.slice (some ⟨b + 1 + 1 + 1 + 1 + 1, 0, none⟩) 1 1] ++ ([.slice (some ⟨b + 1 + 1 + 1 + 1 + 1, 0, none⟩) 1 1] ++ [.slice (some ⟨b + 1 + 1 + 1 + 1 + 1, 0, none⟩) 1 1])
theorem fm_own {W : World} {b : Nat} (h : FmW b W) (o : Obj) : (W.alloc o).ownsRow b 25 1 (.slice (some ⟨b + 1 + 1 + 1 + 1 + 1 + 1 + 1, 0, none⟩) 2 2) 2 [.slice (some ⟨b + 1 + 1 + 1 + 1 + 1, 0, none⟩) 1 1, .slice (some ⟨b + 1 + 1 + 1 + 1 + 1, 0, none⟩) 1 1] :=
  World.ownsRow.alloc (w := W) ⟨rfl, .inr ⟨b + 1 + 1 + 1 + 1 + 1 + 1 + 1, 2, tpRow b, rfl, by omega, h.row, by omega, by decide, rfl, rfl⟩⟩ _
theorem mid4 {w W w3 : World} {b : Nat} {v : Value} {o : Obj} (h : FmW b W) (hb : w.heap.size ≤ b) (hB : Below w.heap.size w W) (hgr : (W.alloc o).grownBy w3 (some (b + 1 + 1 + 1 + 1 + 1 + 1 + 1))) (ho : w3.ownsRow b 25 1 v (2 + 1) ([.slice (some ⟨b + 1 + 1 + 1 + 1 + 1, 0, none⟩) 1 1, .slice (some ⟨b + 1 + 1 + 1 + 1 + 1, 0, none⟩) 1 1] ++ [.slice (some ⟨b + 1 + 1 + 1 + 1 + 1, 0, none⟩) 1 1])) : Mid12 w b v (.slice (some ⟨b + 1 + 1 + 1 + 1 + 1 + 1 + 1 + 1, 0, none⟩) 1 1) w3 := by
  have h1 := h.below (below_alc W o)
  have hB1 := belA o hB
  generalize W.alloc o = W1 at h1 hB1 hgr
  have hbar0 := Bar.of_grown hgr
  have hbar : Bar (fun k => k = b + 1 + 1 + 1 + 1 + 1 + 1 + 1) W1 w3 := ⟨hbar0.os, hbar0.tape, hbar0.output, hbar0.size, fun k hk hn => hbar0.block k hk (fun e => hn (by injection e with e; exact e.symm))⟩
  have hlt := h1.lt
  have hs1 := hB1.size
  have hsz := hbar.size
  obtain ⟨g, cap, cur, rfl, hbg, hg, hnc, hcm, hcs, htk⟩ := Or.resolve_left ho.2 (by rintro ⟨_, h0⟩; omega)
  have hcell := ho.cells (g := g) rfl
  have hfx : TpOk w3 (fX b) := TpOk.bar (S := fun k => k = b + 1 + 1 + 1 + 1 + 1 + 1 + 1) ⟨h1.bs, by show (1 : Nat) ≤ 140737488351232; omega⟩ hbar (by intro q1 q2 q3; have q4 := ad_eq q3; intro q5; have q5 : q1 = _ := q5; omega)
  have hgl : g < w3.heap.size := by
    cases hq : w3.heap[g]? with
    | none => rw [hq] at hg; cases hg
    | some _ => exact (Array.getElem?_eq_some_iff.1 hq).1
  have htp : TpArg w3 (some ⟨g, 0, none⟩) (2 + 1) [fX b, fX b, fX b] := by
    refine ⟨rfl, .inr ⟨g, 0, rfl, fun i hi => ?_, hgl⟩⟩
    have hi : i < 3 := hi
    have e : ∀ j, ((⟨g, 0, none⟩ : Addr).add j) = ⟨g, 0 + j, none⟩ := fun j => by simp [Addr.add]; try omega
    have hcs : i = 0 ∨ i = 1 ∨ i = 2 := by omega
    rcases hcs with rfl | rfl | rfl
    · exact ⟨by rw [← e]; exact hcell 0 _ rfl, hfx⟩
    · exact ⟨by rw [← e]; exact hcell 1 _ rfl, hfx⟩
    · exact ⟨by rw [← e]; exact hcell 2 _ rfl, hfx⟩
  refine ⟨_, _, _, _, _, _, _, _, _, _, _, _, _, _, _, [1, 2], [3], fT, [fX b, fX b, fX b], [fR], ⟨rfl, rfl, h1.sc.bar hbar (by show ¬ (_ = _); omega)⟩, ⟨h1.ks.bar hbar (by intro q1 q2 q3; have q4 := ad_eq q3; intro q5; have q5 : q1 = _ := q5; omega), h1.ms.bar hbar (by intro q1 q2 q3; have q4 := ad_eq q3; intro q5; have q5 : q1 = _ := q5; omega), h1.ty.bar hbar (by intro q1 q2 q3; have q4 := ad_eq q3; intro q5; have q5 : q1 = _ := q5; omega), htp, h1.rw.bar hbar (by intro q1 q2 q3; have q4 := ad_eq q3; intro q5; have q5 : q1 = _ := q5; omega)⟩, ⟨wf2 (by omega) (by omega), wf1 (by omega)⟩, ⟨by omega, by omega, by omega, by omega, by omega⟩, noTk_x (by simp), hB1.trans (hbar.below hs1 (by intro k hk; have hk : k = _ := hk; omega))⟩
theorem tp_cell1 {W : World} {b : Nat} (h : FmW b W) : W.cell? ⟨b + 1 + 1 + 1 + 1 + 1 + 1 + 1, 1, none⟩ = some (.slice (some ⟨b + 1 + 1 + 1 + 1 + 1, 0, none⟩) 1 1) := by
  obtain ⟨_, h2 | ⟨q, off, h2, h3, h4⟩⟩ := h.tp
  · cases h2
  · injection h2 with h2; injection h2 with h5 h6 _; subst h5; subst h6
    exact (h3 1 (by simp)).1
end Go.Proofs.Ytjhmdobmbajcgaa
