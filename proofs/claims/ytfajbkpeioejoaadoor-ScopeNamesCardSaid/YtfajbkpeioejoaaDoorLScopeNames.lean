/- ScopeNames holds for every program. No condition but that the listed package variable holds what the program's text lays. -/
import Derived.Test.YtfajbkpeioejoaaDoorScQ
import Derived.Test.YtfajbkpeioejoaaDoorScG
import Derived.Test.YtfajbkpeioejoaaDoorNdIn
import Derived.Test.YtfajbkpeioejoaaDoorCards
import Derived.Test.YtfajbkpeioejoaaDoorTie
import Derived.Test.YtfajbkpeioejoaaDoorOpn
import Derived.Test.YtfajbkpeioejoaaDoorHan
import Derived.WalkKit
import Derived.ProofKit
import Derived.Deep.DeepHandedRow
namespace Go.Proofs.YtfajbkpeioejoaaDoor.scopeNames
open Go.ChangeShapes Go.WideShapes Go.ChangeAt Go.RowKit
open Go.ChangeMaps (open_string shut_string)
set_option linter.unusedVariables false
set_option linter.unusedSimpArgs false

theorem tabs {W : World} (h : laidMetH Tryd.prog Rows.scopeNamesRow.laid W) : Hid (errTy W) := Lib.hid (errTy_of h (.head _))
/-- two cells of a block of its own. -/
def TwoFr (w : World) (g : Nat) (x y : Value) : Prop := g < w.heap.size ∧ w.cell? ⟨g, 0, none⟩ = some x ∧ w.cell? ⟨g, 1, none⟩ = some y ∧ ∀ o, w.frozen? ⟨g, o, none⟩ = false
theorem TwoFr.below {w w' : World} {g : Nat} {x y : Value} (h : TwoFr w g x y) (hb : Below w.heap.size w w') : TwoFr w' g x y :=
  ⟨by have := hb.size; have := h.1; omega, carry hb h.1 h.2.1, carry hb h.1 h.2.2.1, fun o => by rw [hb.frozen (p := ⟨g, o, none⟩) h.1]; exact h.2.2.2 o⟩
theorem TwoFr.drew {w : World} {g : Nat} {x y : Value} (h : TwoFr w g x y) : TwoFr w.drew g x y := h.below ((Below.refl _ _).drew)
theorem two_lit (w : World) (T : TypeId) (g : Nat) (x y : Value) (hg : g = w.heap.size) : TwoFr (w.alloc (.cells #[x, y] T)) g x y := by
  subst hg
  exact ⟨by simp, by simp, by simp, fun o => by simp [go_sem]⟩
theorem pst_go {w4 W W' : World} {B1 : Nat} {x y : Value} (h1 : B1 < w4.heap.size) (h : W.cell? ⟨B1, 0, none⟩ = some x ∧ W.cell? ⟨B1, 1, none⟩ = some y ∧ Below w4.heap.size w4 W) (hb : Below W.heap.size W W') : W'.cell? ⟨B1, 0, none⟩ = some x ∧ W'.cell? ⟨B1, 1, none⟩ = some y ∧ Below w4.heap.size w4 W' :=
  ⟨carry hb (by have := h.2.2.size; omega) h.1, carry hb (by have := h.2.2.size; omega) h.2.1, belT h.2.2 hb⟩
theorem pst_alloc {w4 W : World} {B1 : Nat} {x y : Value} (h1 : B1 < w4.heap.size) (o : Obj) (h : W.cell? ⟨B1, 0, none⟩ = some x ∧ W.cell? ⟨B1, 1, none⟩ = some y ∧ Below w4.heap.size w4 W) : (W.alloc o).cell? ⟨B1, 0, none⟩ = some x ∧ (W.alloc o).cell? ⟨B1, 1, none⟩ = some y ∧ Below w4.heap.size w4 (W.alloc o) := pst_go h1 h (below_alc W o)
theorem pst_drew {w4 W : World} {B1 : Nat} {x y : Value} (h1 : B1 < w4.heap.size) (h : W.cell? ⟨B1, 0, none⟩ = some x ∧ W.cell? ⟨B1, 1, none⟩ = some y ∧ Below w4.heap.size w4 W) : W.drew.cell? ⟨B1, 0, none⟩ = some x ∧ W.drew.cell? ⟨B1, 1, none⟩ = some y ∧ Below w4.heap.size w4 W.drew := pst_go h1 h ((Below.refl _ _).drew)
theorem pst_set {w4 W : World} {B1 k o : Nat} {x y z : Value} (h1 : B1 < w4.heap.size) (hk : w4.heap.size ≤ k) (h : W.cell? ⟨B1, 0, none⟩ = some x ∧ W.cell? ⟨B1, 1, none⟩ = some y ∧ Below w4.heap.size w4 W) : (W.setCell ⟨k, o, none⟩ z).cell? ⟨B1, 0, none⟩ = some x ∧ (W.setCell ⟨k, o, none⟩ z).cell? ⟨B1, 1, none⟩ = some y ∧ Below w4.heap.size w4 (W.setCell ⟨k, o, none⟩ z) :=
  ⟨(World.cell?_setCell_other _ _ _ _ (by intro e; injection e; omega)).trans h.1, (World.cell?_setCell_other _ _ _ _ (by intro e; injection e; omega)).trans h.2.1, h.2.2.setCell hk _⟩
theorem ownN_sl {B : Nat} {w : World} {v : Value} {l : List Nd} (h : OwnN B w v l) : ∃ a c, v = .slice a l.length c := by
  rcases h.cases with ⟨h1, rfl⟩ | ⟨g, c, h1, _⟩
  · exact ⟨none, 0, h1⟩
  · exact ⟨_, c, h1⟩
theorem ownO_sl {B : Nat} {w : World} {v : Value} {l : List Or} (h : OwnO B w v l) : ∃ a c, v = .slice a l.length c := by
  rcases h.cases with ⟨h1, rfl⟩ | ⟨g, c, h1, _⟩
  · exact ⟨none, 0, h1⟩
  · exact ⟨_, c, h1⟩
theorem own_lo {B B' : Nat} {w : World} {e : TypeId} {size : Nat} {v : Value} {n : Nat} {xs : List Value} (h : w.ownsRow B' e size v n xs) (hB : B ≤ B') : w.ownsRow B e size v n xs := by
  refine ⟨h.1, ?_⟩
  rcases h.2 with h | ⟨g', cap, cur, e1, e2, e3⟩
  · exact .inl h
  · exact .inr ⟨g', cap, cur, e1, by omega, e3⟩
theorem bar_below {S : Nat → Prop} {w W W' : World} (h : Below w.heap.size w W) (hb : Bar S W W') (hs : ∀ k, S k → w.heap.size ≤ k) : Below w.heap.size w W' :=
  ⟨hb.os.trans h.os, hb.tape.trans h.tape, hb.output.trans h.output, Nat.le_trans h.size hb.size, fun k hk => (hb.block k (by have := h.size; omega) (fun e => by have := hs k e; omega)).trans (h.block k hk)⟩
/-- behind the copies. -/
def Mid (W1 : World) (os : List Or) (ts : List Nd) (s3 : Value) (W : World) : Prop :=
  ∃ g ao co an cn, s3 = .pointer (some ⟨g, 0, none⟩) ∧ Pg W g ao os.length co an ts.length cn ∧ OwnO W1.heap.size W (.slice ao os.length co) os ∧ OwnN W1.heap.size W (.slice an ts.length cn) ts ∧ Below W1.heap.size W1 W ∧ ∀ k, (Value.slice an ts.length cn).ownBlock = some k → k ≠ g
theorem mid_al {W1 w8 w9 : World} {B : Nat} {os : List Or} {ts : List Nd} {ao an : Option Addr} {co cn : Nat} {T : TypeId} (hO : OwnO B w8 (.slice ao os.length co) os) (hB8 : W1.heap.size ≤ B) (hb : Below w8.heap.size w8 w9)
    (hN : OwnN w8.heap.size w9 (.slice an ts.length cn) ts) (h8 : W1.heap.size ≤ w8.heap.size) (hB : Below W1.heap.size W1 w9) : Mid W1 os ts (.pointer (some ⟨w9.heap.size, 0, none⟩)) (w9.alloc (.cells #[.slice ao os.length co, .slice an ts.length cn] T)) :=
  ⟨w9.heap.size, ao, co, an, cn, rfl, pg_lit _ _ _ rfl _ _ _ _ _ _, OwnO.below (own_lo (hO.below hb) hB8) (below_alc _ _), OwnN.below (own_lo hN h8) (below_alc _ _), belA _ hB, fun k hk e => by have := (own_lt hN k hk).2; omega⟩
theorem mid_st {W1 w9 : World} {os : List Or} {ts : List Nd} {ao an : Option Addr} {co cn g : Nat} {x y : Value} (hO : OwnO W1.heap.size w9 (.slice ao os.length co) os) (hN : OwnN W1.heap.size w9 (.slice an ts.length cn) ts)
    (hgO : ∀ k, (Value.slice ao os.length co).ownBlock = some k → k ≠ g) (hgN : ∀ k, (Value.slice an ts.length cn).ownBlock = some k → k ≠ g) (hT : TwoFr w9 g x y) (hg : W1.heap.size ≤ g) (hB : Below W1.heap.size W1 w9) :
    Mid W1 os ts (.pointer (some ⟨g, 0, none⟩)) ((w9.setCell ⟨g, 0, none⟩ (.slice ao os.length co)).setCell ⟨g, 1, none⟩ (.slice an ts.length cn)) := by
  obtain ⟨t0, t1, t2, _⟩ := hT
  obtain ⟨c0, c1, hb⟩ := two_set t1 t2 (.slice ao os.length co) (.slice an ts.length cn)
  exact ⟨g, ao, co, an, cn, rfl, ⟨by simpa using t0, c0, c1⟩, Bar.own hb hO (fun k hk e => hgO k hk e), Bar.own hb hN (fun k hk e => hgN k hk e), (hB.setCell (p := ⟨g, 0, none⟩) hg _).setCell (p := ⟨g, 1, none⟩) hg _, hgN⟩
/-- the loop. -/
def LoopI (Wc : World) (an : Option Addr) (cn : Nat) (ts : List Nd) (j : Nat) (wr : World) : Prop :=
  Bar (fun k => (Value.slice an ts.length cn).ownBlock = some k) Wc wr ∧ NArg wr an ts.length ((ts.take j).map ren ++ ts.drop j) ∧ (∀ k, (Value.slice an ts.length cn).ownBlock = some k → ∀ o, wr.frozen? ⟨k, o, none⟩ = false) ∧ ∀ t ∈ ts.take j, Short t
theorem nd10_nm {W : World} {g : Nat} {t : Nd} (h : Nd10 W g t) (s : ByteArray) : Nd10 (W.setCell ⟨g, 5, none⟩ (.string s)) g { t with nm := s } ∧ Bar (fun k => k = g) W (W.setCell ⟨g, 5, none⟩ (.string s)) := by
  obtain ⟨hl, h0, h1, h2, h3, h4, h5, h6, h7, h8, h9, hf⟩ := h
  have ne : ∀ a b : Nat, a ≠ b → (⟨g, a, none⟩ : Addr) ≠ ⟨g, b, none⟩ := fun a b hab e => by injection e with _ e2 _; exact hab e2
  exact ⟨⟨by simpa using hl, setO h0 (ne _ _ (by decide)), setO h1 (ne _ _ (by decide)), setO h2 (ne _ _ (by decide)), setO h3 (ne _ _ (by decide)), setO h4 (ne _ _ (by decide)), setS h5, setO h6 (ne _ _ (by decide)), setO h7 (ne _ _ (by decide)), setO h8 (ne _ _ (by decide)), setO h9 (ne _ _ (by decide)), fun o => by simp only [World.frozen?_setCell]; exact hf o⟩, Bar.set ⟨g, 5, none⟩ _ rfl⟩
theorem nd10_x {W : World} {g : Nat} {t : Nd} (h : Nd10 W g t) (s : ByteArray) : Nd10 (W.setCell ⟨g, 6, none⟩ (.string s)) g { t with x := s } ∧ Bar (fun k => k = g) W (W.setCell ⟨g, 6, none⟩ (.string s)) := by
  obtain ⟨hl, h0, h1, h2, h3, h4, h5, h6, h7, h8, h9, hf⟩ := h
  have ne : ∀ a b : Nat, a ≠ b → (⟨g, a, none⟩ : Addr) ≠ ⟨g, b, none⟩ := fun a b hab e => by injection e with _ e2 _; exact hab e2
  exact ⟨⟨by simpa using hl, setO h0 (ne _ _ (by decide)), setO h1 (ne _ _ (by decide)), setO h2 (ne _ _ (by decide)), setO h3 (ne _ _ (by decide)), setO h4 (ne _ _ (by decide)), setO h5 (ne _ _ (by decide)), setS h6, setO h7 (ne _ _ (by decide)), setO h8 (ne _ _ (by decide)), setO h9 (ne _ _ (by decide)), fun o => by simp only [World.frozen?_setCell]; exact hf o⟩, Bar.set ⟨g, 6, none⟩ _ rfl⟩
theorem nd10_y {W : World} {g : Nat} {t : Nd} (h : Nd10 W g t) (s : ByteArray) : Nd10 (W.setCell ⟨g, 7, none⟩ (.string s)) g { t with y := s } ∧ Bar (fun k => k = g) W (W.setCell ⟨g, 7, none⟩ (.string s)) := by
  obtain ⟨hl, h0, h1, h2, h3, h4, h5, h6, h7, h8, h9, hf⟩ := h
  have ne : ∀ a b : Nat, a ≠ b → (⟨g, a, none⟩ : Addr) ≠ ⟨g, b, none⟩ := fun a b hab e => by injection e with _ e2 _; exact hab e2
  exact ⟨⟨by simpa using hl, setO h0 (ne _ _ (by decide)), setO h1 (ne _ _ (by decide)), setO h2 (ne _ _ (by decide)), setO h3 (ne _ _ (by decide)), setO h4 (ne _ _ (by decide)), setO h5 (ne _ _ (by decide)), setO h6 (ne _ _ (by decide)), setS h7, setO h8 (ne _ _ (by decide)), setO h9 (ne _ _ (by decide)), fun o => by simp only [World.frozen?_setCell]; exact hf o⟩, Bar.set ⟨g, 7, none⟩ _ rfl⟩
theorem nd10_z {W : World} {g : Nat} {t : Nd} (h : Nd10 W g t) (s : ByteArray) : Nd10 (W.setCell ⟨g, 8, none⟩ (.string s)) g { t with z := s } ∧ Bar (fun k => k = g) W (W.setCell ⟨g, 8, none⟩ (.string s)) := by
  obtain ⟨hl, h0, h1, h2, h3, h4, h5, h6, h7, h8, h9, hf⟩ := h
  have ne : ∀ a b : Nat, a ≠ b → (⟨g, a, none⟩ : Addr) ≠ ⟨g, b, none⟩ := fun a b hab e => by injection e with _ e2 _; exact hab e2
  exact ⟨⟨by simpa using hl, setO h0 (ne _ _ (by decide)), setO h1 (ne _ _ (by decide)), setO h2 (ne _ _ (by decide)), setO h3 (ne _ _ (by decide)), setO h4 (ne _ _ (by decide)), setO h5 (ne _ _ (by decide)), setO h6 (ne _ _ (by decide)), setO h7 (ne _ _ (by decide)), setS h8, setO h9 (ne _ _ (by decide)), fun o => by simp only [World.frozen?_setCell]; exact hf o⟩, Bar.set ⟨g, 8, none⟩ _ rfl⟩
theorem us_e {s : ByteArray} (h : (s.toList == []) = true) : us s = s := by
  unfold us; rw [ByteArray.toList_eq, beq_iff_eq] at h; rw [if_pos h]
theorem us_n {s : ByteArray} (h : (s.toList == []) = false) : us s = s ++ ⟨#[95]⟩ := by
  unfold us; rw [ByteArray.toList_eq] at h; rw [if_neg (by intro e; rw [e] at h; exact absurd h (by decide))]
set_option maxRecDepth 100000 in
set_option maxHeartbeats 4000000 in
theorem walk {H : Type} {enc : TypeId × Value → H} (p0 : Option Addr) (n0 c0 : Nat) (p1 : Option Addr) (n1 c1 : Nat) (w : World)
    (f0 : ∃ fuel y, DataW.trod enc Tryd.prog w 0 (fun _ => true) true fuel 22 [.slice p0 n0 c0] = some y ∧ ∀ x ∈ DataW.weights Tryd.prog 22 y.1, x ≤ reachBytes)
    (f1 : ∃ fuel y, DataW.trod enc Tryd.prog w 0 (fun _ => true) true fuel 23 [.slice p1 n1 c1] = some y ∧ ∀ x ∈ DataW.weights Tryd.prog 23 y.1, x ≤ reachBytes)
    (hg : Hid (errTy w)) :
    Calls Tryd.prog 4 #[.agg #[.slice p0 n0 c0, .slice p1 n1 c1]] w fun e w' => e = .returned (.bool true) ∧ Below w.heap.size w w' := by
  obtain ⟨_, _, t0, t0'⟩ := f0
  obtain ⟨_, hl0, os, hO, hOz⟩ := ops_open t0 t0'
  obtain ⟨_, _, t1, t1'⟩ := f1
  obtain ⟨_, hl1, ts, hN, hNz⟩ := nodes_open t1 t1'
  clear t0 t0' t1 t1'
  obtain rfl : n1 = ts.length := hN.1
  obtain rfl : n0 = os.length := hO.1
  have hO := Lib.hid hO
  have hN := Lib.hid hN
  have hOz := Lib.hid hOz
  have hNz := Lib.hid hNz
  have h0l := hgl hg.out
  obtain ⟨w0, hw0⟩ : ∃ W, w.alloc (.cells #[.slice p0 os.length c0, .slice p1 ts.length c1] 25) = W := ⟨_, rfl⟩
  have hP : Hid (Pg w0 w.heap.size p0 os.length c0 p1 ts.length c1) := Lib.hid (by rw [← hw0]; exact pg_lit _ _ _ rfl _ _ _ _ _ _)
  have hB : Hid (Below w.heap.size w w0) := Lib.hid (by rw [← hw0]; exact below_alc _ _)
  go_enter Tryd.func4, Tryd.ntmps4
  go_upto_region 1 with fail
  (try rw [hw0])
  clear hw0
  go_wp2_with fail
  refine (awake6_any _ (Lib.hid (hg.out.below hB.out))).mono ?_
  rintro e w1 ⟨rfl, hb⟩
  have hP := Lib.hid (hP.out.below hb)
  have hB := Lib.hid (belT hB.out hb)
  clear hb
  go_upto_region 3 with fail
  go_cut [3] (fun s3 W => Mid w1 os ts s3 W)
  case first =>
    have hp0 := Lib.hid hP.out.1
    have hst : Hid (w1.cell? ⟨w.heap.size, 0, none⟩ = some (.slice p0 os.length c0) ∧ w1.cell? ⟨w.heap.size, 1, none⟩ = some (.slice p1 ts.length c1) ∧ Below w1.heap.size w1 w1) := Lib.hid ⟨hP.out.2.1, hP.out.2.2, Below.refl _ _⟩
    have kO := Lib.hid fun (W : World) (hb : Below w1.heap.size w1 W) => CopyOps_any p0 os.length c0 os W (Lib.hid (hO.out.below (belT hB.out hb))) (by omega)
    have kN := Lib.hid fun (W : World) (hb : Below w1.heap.size w1 W) => CopyNodes_any p1 ts.length c1 ts W (Lib.hid (hN.out.below (belT hB.out hb))) (by omega)
    go_region_held3 (fun W => W.cell? ⟨w.heap.size, 0, none⟩ = some (.slice p0 os.length c0) ∧ W.cell? ⟨w.heap.size, 1, none⟩ = some (.slice p1 ts.length c1) ∧ Below w1.heap.size w1 W)
      (repeat (first | with_reducible exact hS9.out | with_reducible exact hS8.out | with_reducible exact hst.out | with_reducible refine pst_alloc hp0.out _ ?_ | with_reducible refine pst_drew hp0.out ?_ | with_reducible refine pst_set hp0.out (by omega) ?_))
      ((first
        | (go_at_call 12; refine (kO.out _ (by repeat (first | with_reducible exact Below.refl _ _ | with_reducible refine Below.drew ?_ | with_reducible refine belA _ ?_))).mono ?_; rintro e w8 ⟨v8, rfl, hO8, hb8⟩; obtain ⟨a8, c8, rfl⟩ := ownO_sl hO8; have hS8 := Lib.hid (pst_go hp0.out (by assumption) hb8); have hs8 := hS8.out.2.2.size; (try (with_reducible (have k1 := TwoFr.below (TwoFr.drew (two_lit w1 25 w1.heap.size (.slice none 0 0) (.slice none 0 0) rfl)) hb8))); (try (with_reducible (have k1 := TwoFr.below (two_lit w1 25 w1.heap.size (.slice none 0 0) (.slice none 0 0) rfl) hb8))))
        | (go_at_call 13; refine (kN.out _ (by repeat (first | with_reducible exact hS8.out.2.2 | with_reducible refine Below.drew ?_ | with_reducible refine belA _ ?_))).mono ?_; rintro e w9 ⟨v9, rfl, hv9, hb9⟩; obtain ⟨a9, c9, rfl⟩ := ownN_sl hv9; have hS9 := Lib.hid (pst_go hp0.out (by assumption) hb9); (try (with_reducible (have k9 := TwoFr.below k1 hb9))); (try (with_reducible (have k9 := TwoFr.below (TwoFr.drew k1) hb9))); (try (with_reducible (have k9 := TwoFr.below (two_lit w8 25 w8.heap.size (.slice none 0 0) (.slice none 0 0) rfl) hb9))); (try (with_reducible (have k9 := TwoFr.below (TwoFr.drew (two_lit w8 25 w8.heap.size (.slice none 0 0) (.slice none 0 0) rfl)) hb9))); (try (have k8 := k9; obtain ⟨k91, k92, k93, k94⟩ := k8)))))
    all_goals (go_wp2_with fail; go_meet)
    · exact mid_al hO8 (Nat.le_refl _) hb9 hv9 hs8 hS9.out.2.2
    · exact mid_st (own_lo ((hO8.below (below_alc w8 _)).below hb9) (Nat.le_refl _)) (own_lo hv9 (by simp; omega)) (fun k hk e => by have := (own_lt hO8 k hk).2; omega) (fun k hk e => by have := (own_lt hv9 k hk).1; simp at this; omega) k9 hs8 hS9.out.2.2
    · have e1 : ∀ o : Obj, (w1.alloc o).drew.heap.size = w1.heap.size + 1 := fun o => by show (w1.alloc o).heap.size = _; simp
      exact mid_st (own_lo (hO8.below hb9) (by rw [e1]; omega)) (own_lo hv9 hs8) (fun k hk e => by have := (own_lt hO8 k hk).1; rw [e1] at this; omega) (fun k hk e => by have := (own_lt hv9 k hk).1; have := k1.1; omega) k9 (Nat.le_refl _) hS9.out.2.2
  case rest =>
    obtain ⟨gq, ao, co, an, cn, rfl, hQ, hOo, hON, hBc, hgn⟩ := hcut
    rename World => Wc
    have hS0 : ∀ k, (Value.slice an ts.length cn).ownBlock = some k → w.heap.size + 1 ≤ k := fun k hk => by have := (own_lt hON k hk).1; have := hP.out.1; omega
    have hoff : Hid (∀ b off, an = some ⟨b, off, none⟩ → ts ≠ [] → off = 0 ∧ (Value.slice an ts.length cn).ownBlock = some b) := Lib.hid fun b off e hne => by
      subst e
      rcases hON.cases with ⟨h1, h2⟩ | ⟨g, c, h1, _⟩
      · exact absurd h2 hne
      · injection h1 with h1 _ _; injection h1 with h1; injection h1 with h1 h2 _; subst h1; subst h2; exact ⟨rfl, rfl⟩
    have hI0 : LoopI Wc an cn ts 0 Wc := ⟨Bar.refl _ _, hON.arg, fun k hk o => by
      rcases hON.cases with ⟨h1, h2⟩ | ⟨g, c, h1, _, _, _, _, h3⟩
      · rw [h1] at hk; cases hk
      · rw [h1] at hk; injection hk with hk; subst hk; exact h3 o, fun t ht => by simp at ht⟩
    have hI0 := Lib.hid hI0
    have hne := own_ne hON hOo (by decide)
    have hSO := Lib.hid hne
    have hQ := Lib.hid hQ
    have hOo := Lib.hid hOo
    have hBw := Lib.hid (belT hB.out hBc)
    have hgn := Lib.hid hgn
    have hS0 := Lib.hid hS0
    have hwc := hBc.size
    have hPl := hP.out.1
    have hPc := Lib.hid (hP.out.below hBc)
    clear hON hBc hne
    go_wp2_with fail
    go_loopw [4] (fun iv wr => ∃ j : Nat, j ≤ ts.length ∧ iv = .int .i64 j ∧ Hid (LoopI Wc an cn ts j wr)) (fun iv _ => ts.length - (intOf iv).toNat)
    case atStart => exact ⟨0, by omega, rfl, hI0⟩
    case round =>
      obtain ⟨j, hj, rfl, hI⟩ := hrel
      obtain ⟨hIb, hIn, hIf, hIs⟩ := hI.out
      have hz := hIb.size
      have hQr := Lib.hid (hQ.out.bar hIb (fun h => hgn.out _ h rfl))
      by_cases hlt : j < ts.length
      · have hln := mid_len ts j
        rcases hIn.2 with h0 | ⟨N, off, rfl, hs, hNl⟩
        · rw [h0] at hln; simp at hln; omega
        obtain ⟨rfl, hSN⟩ := hoff.out N off rfl (by intro e; rw [e] at hlt; simp at hlt)
        have hT := hs j (by omega)
        rw [mid_get ts j hlt] at hT
        have hst := Lib.hid (mid_set ts j hlt)
        have htz := hNz.out (ts.getD j nd0) (by rw [List.getD_eq_getElem?_getD, List.getElem?_eq_getElem hlt]; exact List.getElem_mem hlt)
        have hsn := Lib.hid (short_snoc hlt hIs)
        generalize ts.getD j nd0 = t at hT hst htz hsn
        have hji : (j : Int) < (ts.length : Int) := by omega
        have hj0 : (0 : Int) ≤ (j : Int) := by omega
        have hNg : N ≠ gq := hgn.out N hSN
        have hNw : w.heap.size + 1 ≤ N := hS0.out N hSN
        obtain ⟨z5, z6, z7, z8⟩ := htz
        obtain ⟨wX, hwX⟩ : ∃ W, wr.alloc (.cells #[.int .i64 t.k, .int .i64 t.a, .int .i64 t.b, .int .i64 t.c, .int .i64 t.n, .string t.nm, .string t.x, .string t.y, .string t.z, .int .i64 t.p] 34) = W := ⟨_, rfl⟩
        have hX : Hid (Nd10 wX wr.heap.size t) := Lib.hid (by rw [← hwX]; exact nd10_lit _ _ _ _ _ rfl rfl)
        have hbX : Below wr.heap.size wr wX := by rw [← hwX]; exact below_alc _ _
        unfold NdAt at hT
        obtain ⟨e0, e1, e2, e3, e4, e5, e6, e7, e8, e9⟩ := hT
        simp only [Nat.zero_add] at e0 e1 e2 e3 e4 e5 e6 e7 e8 e9
        obtain ⟨q0, q1, q2⟩ := hQr.out
        have hs := Lib.hid hs
        have hln := Lib.hid hln
        have hIf := Lib.hid hIf
        have hIs := Lib.hid hIs
        clear hIn
        go_upto_region 8 with fail
        (try rw [hwX])
        clear hwX e0 e1 e2 e3 e4 e5 e6 e7 e8 e9 q0 q1 q2
        have hQX := Lib.hid (hQr.out.below hbX)
        have hsX := Lib.hid (fun i hi => (hs.out i hi).below hbX hNl)
        have hIfX := Lib.hid (fun o => (hbX.frozen (p := ⟨N, o, none⟩) hNl).trans (hIf.out N hSN o))
        have hIbX := Lib.hid (hIb.next hbX)
        have hgX := hbX.size
        obtain ⟨xl, x0, x1, x2, x3, x4, x5, x6, x7, x8, x9, xf⟩ := hX.out
        have hgql := hQr.out.1
        clear hbX hIf hs hQr
        by_cases hsh : Short t
        · obtain ⟨s1, s2, s3, s4⟩ := hsh
          have hsn := Lib.hid (hsn.out ⟨s1, s2, s3, s4⟩)
          have a1 : ¬ (16 : Int) < (t.nm.size : Int) + 1 := by omega
          have a2 : ¬ (16 : Int) < (t.x.size : Int) + 1 := by omega
          have a3 : ¬ (16 : Int) < (t.y.size : Int) + 1 := by omega
          have a4 : ¬ (16 : Int) < (t.z.size : Int) + 1 := by omega
          go_upto_region 10 with fail
          clear a1 a2 a3 a4
          obtain ⟨bn, hbn⟩ : ∃ b, (t.nm.toList == []) = b := ⟨_, rfl⟩
          obtain ⟨bk, hbk⟩ : ∃ b, (t.k == 0) = b := ⟨_, rfl⟩
          obtain ⟨cA, hcA⟩ : ∃ c, (!bn && bk) = c := ⟨_, rfl⟩
          obtain ⟨nm', hnm⟩ : ∃ u, (if t.k = 0 then us t.nm else t.nm) = u := ⟨_, rfl⟩
          have hA0 : Hid (cA = false → nm' = t.nm) := Lib.hid fun e => by
            rw [← hnm]
            cases bn
            · cases bk
              · rw [if_neg (by intro e2; rw [e2] at hbk; cases hbk)]
              · rw [← hcA] at e; cases e
            · rw [us_e hbn, ite_self]
          have hA1 : Hid (cA = true → nm' = t.nm ++ ⟨#[95]⟩) := Lib.hid fun e => by
            rw [← hnm]
            cases bn
            · cases bk
              · rw [← hcA] at e; cases e
              · rw [if_pos (beq_iff_eq.1 hbk), us_n hbn]
            · rw [← hcA] at e; cases e
          have hnm := Lib.hid hnm
          go_cut [66] (fun s66 W => s66 = .bool cA ∧ W = wX)
          case first =>
            clear hA0 hA1 hnm
            cases bn <;> cases bk <;> subst hcA
            all_goals
              go_wp2_with fail
              go_meet
              exact ⟨rfl, rfl⟩
          case rest =>
          obtain ⟨rfl, rfl⟩ := hcut
          rename World => wX
          clear hbn hbk hcA
          go_upto_if 66 with fail
          go_cut [] (fun W => Nd10 W wr.heap.size { t with nm := nm' } ∧ Bar (fun k => k = wr.heap.size) wX W)
          case first =>
            cases cA
            · go_wp2_with fail
              go_meet
              rw [hA0.out trivial]
              exact ⟨hX.out, Bar.refl _ _⟩
            · go_wp2_with fail
              go_meet
              rw [hA1.out trivial]
              exact nd10_nm hX.out _
          case rest =>
          obtain ⟨hX, hbA⟩ := hcut
          rename World => w5
          have hX := Lib.hid hX
          have hG := Lib.hid hbA
          clear hbA hA0 hA1 xl x0 x1 x2 x3 x4 x5 x6 x7 x8 x9 xf
          obtain ⟨xl, x0, x1, x2, x3, x4, x5, x6, x7, x8, x9, xf⟩ := hX.out
          dsimp only at x0 x1 x2 x3 x4 x5 x6 x7 x8 x9
          obtain ⟨dx, hdx⟩ : ∃ b, (t.x.toList == []) = b := ⟨_, rfl⟩
          obtain ⟨x', hx⟩ : ∃ u, us t.x = u := ⟨_, rfl⟩
          have hA0 : Hid (dx = true → x' = t.x) := Lib.hid fun e => by rw [← hx, us_e (by rw [hdx, e])]
          have hA1 : Hid (dx = false → x' = t.x ++ ⟨#[95]⟩) := Lib.hid fun e => by rw [← hx, us_n (by rw [hdx, e])]
          have hx := Lib.hid hx
          go_upto_if 73 with fail
          go_cut [] (fun W => Nd10 W wr.heap.size { t with nm := nm', x := x' } ∧ Bar (fun k => k = wr.heap.size) w5 W)
          case first =>
            cases dx
            · go_wp2_with fail
              go_meet
              rw [hA1.out trivial]
              exact nd10_x hX.out _
            · go_wp2_with fail
              go_meet
              rw [hA0.out trivial]
              exact ⟨hX.out, Bar.refl _ _⟩
          case rest =>
          obtain ⟨hX, hbA⟩ := hcut
          rename World => w6
          have hX := Lib.hid hX
          have hG := Lib.hid (hG.out.trans hbA fun _ _ e => e)
          clear hbA hA0 hA1 xl x0 x1 x2 x3 x4 x5 x6 x7 x8 x9 xf
          obtain ⟨xl, x0, x1, x2, x3, x4, x5, x6, x7, x8, x9, xf⟩ := hX.out
          dsimp only at x0 x1 x2 x3 x4 x5 x6 x7 x8 x9
          obtain ⟨dy, hdy⟩ : ∃ b, (t.y.toList == []) = b := ⟨_, rfl⟩
          obtain ⟨y', hy⟩ : ∃ u, us t.y = u := ⟨_, rfl⟩
          have hA0 : Hid (dy = true → y' = t.y) := Lib.hid fun e => by rw [← hy, us_e (by rw [hdy, e])]
          have hA1 : Hid (dy = false → y' = t.y ++ ⟨#[95]⟩) := Lib.hid fun e => by rw [← hy, us_n (by rw [hdy, e])]
          have hy := Lib.hid hy
          go_upto_if 80 with fail
          go_cut [] (fun W => Nd10 W wr.heap.size { t with nm := nm', x := x', y := y' } ∧ Bar (fun k => k = wr.heap.size) w6 W)
          case first =>
            cases dy
            · go_wp2_with fail
              go_meet
              rw [hA1.out trivial]
              exact nd10_y hX.out _
            · go_wp2_with fail
              go_meet
              rw [hA0.out trivial]
              exact ⟨hX.out, Bar.refl _ _⟩
          case rest =>
          obtain ⟨hX, hbA⟩ := hcut
          rename World => w7
          have hX := Lib.hid hX
          have hG := Lib.hid (hG.out.trans hbA fun _ _ e => e)
          clear hbA hA0 hA1 xl x0 x1 x2 x3 x4 x5 x6 x7 x8 x9 xf
          obtain ⟨xl, x0, x1, x2, x3, x4, x5, x6, x7, x8, x9, xf⟩ := hX.out
          dsimp only at x0 x1 x2 x3 x4 x5 x6 x7 x8 x9
          obtain ⟨dz, hdz⟩ : ∃ b, (t.z.toList == []) = b := ⟨_, rfl⟩
          obtain ⟨z', hz'⟩ : ∃ u, us t.z = u := ⟨_, rfl⟩
          have hA0 : Hid (dz = true → z' = t.z) := Lib.hid fun e => by rw [← hz', us_e (by rw [hdz, e])]
          have hA1 : Hid (dz = false → z' = t.z ++ ⟨#[95]⟩) := Lib.hid fun e => by rw [← hz', us_n (by rw [hdz, e])]
          have hz' := Lib.hid hz'
          go_upto_if 87 with fail
          go_cut [] (fun W => Nd10 W wr.heap.size { t with nm := nm', x := x', y := y', z := z' } ∧ Bar (fun k => k = wr.heap.size) w7 W)
          case first =>
            cases dz
            · go_wp2_with fail
              go_meet
              rw [hA1.out trivial]
              exact nd10_z hX.out _
            · go_wp2_with fail
              go_meet
              rw [hA0.out trivial]
              exact ⟨hX.out, Bar.refl _ _⟩
          case rest =>
          obtain ⟨hX, hbA⟩ := hcut
          rename World => w8
          have hX := Lib.hid hX
          have hG := Lib.hid (hG.out.trans hbA fun _ _ e => e)
          clear hbA hA0 hA1 xl x0 x1 x2 x3 x4 x5 x6 x7 x8 x9 xf
          have hru : ({ t with nm := nm', x := x', y := y', z := z' } : Nd) = ren t := by rw [← hnm.out, ← hx.out, ← hy.out, ← hz'.out]; rfl
          rw [hru] at hX
          clear hru hnm hx hy hz'
          have hgN : N ≠ wr.heap.size := by omega
          have hwX := hG.out.size
          have hs8 : Hid (NdSl w8 N 0 ((ts.take j).map ren ++ ts.drop j)) := Lib.hid (NdSl.bar (fun i hi => hsX.out i hi) hG.out hgN)
          have hf8 : ∀ o, w8.frozen? ⟨N, o, none⟩ = false := fun o => by rw [hG.out.frozen (a := ⟨N, o, none⟩) (show N < wX.heap.size by omega) hgN]; exact hIfX.out o
          have hQ8 := Lib.hid (hQX.out.bar hG.out (fun e => by have e : gq = wr.heap.size := e; omega))
          have hB8 := Lib.hid (hIbX.out.trans hG.out (fun k hk e => False.elim (by have e : k = wr.heap.size := e; have h9 := hIb.size; omega)))
          obtain ⟨u, hu⟩ : ∃ u, ren t = u := ⟨_, rfl⟩
          rw [hu] at hX hst
          obtain ⟨wF, hwF⟩ : ∃ W, st10 w8 N (j * 10) u = W := ⟨_, rfl⟩
          obtain ⟨r1, r2, r3⟩ := st10_rest w8 N (j * 10) u
          have hsF := st10_sl hs8.out (i := j) (t := u) (by rw [hln.out]; exact hlt)
          rw [hwF] at r1 r2 r3 hsF
          rw [hst.out] at hsF
          have hNd := hs8.out j (by rw [hln.out]; exact hlt)
          generalize ((ts.take j).map ren ++ ts.drop j).getD j nd0 = v at hNd
          unfold NdAt at hNd
          simp only [Nat.zero_add] at hNd
          obtain ⟨f0, f1, f2, f3, f4, f5, f6, f7, f8, f9⟩ := hNd
          obtain ⟨xl, x0, x1, x2, x3, x4, x5, x6, x7, x8, x9, xf⟩ := hX.out
          obtain ⟨q0, q1, q2⟩ := hQ8.out
          have hsF := Lib.hid hsF
          have r1 := Lib.hid r1
          have r2 := Lib.hid r2
          have r3 := Lib.hid r3
          unfold st10 at hwF
          go_wp2_with fail
          go_roundw
          case rel =>
            exact ⟨j + 1, by omega, by go_num, Lib.hid ⟨hB8.out.trans r3.out (fun k hk e => by have e : k = N := e; rw [e]; exact hSN), ⟨(mid_len ts (j + 1)).symm, .inr ⟨N, 0, rfl, hsF.out, by rw [r2.out]; omega⟩⟩, fun k hk o => by
              rw [hSN] at hk; injection hk with hk; subst hk; rw [r1.out]; exact hf8 o, hsn.out⟩⟩
          case measure => simp [intOf]; omega
        · have hsh : (16 : Int) < (t.nm.size : Int) + 1 ∨ (¬ (16 : Int) < (t.nm.size : Int) + 1 ∧ (16 : Int) < (t.x.size : Int) + 1) ∨ (¬ (16 : Int) < (t.nm.size : Int) + 1 ∧ ¬ (16 : Int) < (t.x.size : Int) + 1 ∧ (16 : Int) < (t.y.size : Int) + 1) ∨ (¬ (16 : Int) < (t.nm.size : Int) + 1 ∧ ¬ (16 : Int) < (t.x.size : Int) + 1 ∧ ¬ (16 : Int) < (t.y.size : Int) + 1 ∧ (16 : Int) < (t.z.size : Int) + 1) := by
            unfold Short at hsh
            omega
          rcases hsh with h1 | ⟨h1, h2⟩ | ⟨h1, h2, h3⟩ | ⟨h1, h2, h3, h4⟩
          all_goals
            go_wp2_with fail
            go_ret
            exact ⟨rfl, bar_below hBw.out hIbX.out (fun k hk => by have := hS0.out k hk; omega)⟩
      · obtain rfl : j = ts.length := by omega
        rw [List.take_length, List.drop_length, List.append_nil] at hIn
        rw [List.take_length] at hIs
        have hBr := Lib.hid (bar_below hBw.out hIb (fun k hk => by have := hS0.out k hk; omega))
        have hPr := Lib.hid (hPc.out.bar hIb (fun h => by have := hS0.out _ h; omega))
        have hOr := Lib.hid (OwnO.arg (Bar.own hIb hOo.out (fun k hk e => hSO.out k e hk)))
        have hNr := Lib.hid hIn
        have hsz := Lib.hid (short_sz hIs)
        have hsr := Lib.hid fun h => names_res (os := os) hIs h
        have hwr := hBr.out.size
        have kR := Lib.hid (Resolve_any p0 p1 os.length c0 ts.length c1 os ts wr (Lib.hid (hO.out.below hBr.out)) hOz (by omega) (Lib.hid (hN.out.below hBr.out)) hNz (by omega) (Lib.hid (hg.out.below hBr.out)))
        have kQ := Lib.hid fun (W : World) (hb : Below wr.heap.size wr W) => Resolve_any ao an os.length co ts.length cn os (ts.map ren) W (Lib.hid (hOr.out.below hb)) hOz (by omega) (Lib.hid (hNr.out.below hb)) hsz (by omega) (Lib.hid (hg.out.below (belT hBr.out hb)))
        clear hIb hIn hIf hIs hI hOr hNr hP hB hPc hOo hSO hgn hS0 hoff hI0 hBw hQ hj hz
        obtain ⟨q0, q1, q2⟩ := hPr.out
        obtain ⟨r0, r1, r2⟩ := hQr.out
        go_wp2_with fail
        clear q0 q1 q2 r0 r1 r2
        refine kR.out.mono ?_
        intro e w2 hpost
        clear kR hPr
        by_cases hmay : mayV os ts = true
        · have hsr := hsr.out hmay
          cases hq : resV os ts with
          | error er =>
            obtain ⟨c, p⟩ := er
            obtain ⟨rfl, hb⟩ := res_no hpost hq
            obtain ⟨hc, _⟩ := shape_bad hq
            have hc : c = 600 ∨ c = 601 ∨ c = 602 := hc
            rw [hq] at hsr
            have hB2 := Lib.hid hb
            have hQr := Lib.hid (hQr.out.below hb)
            have hsr := Lib.hid hsr
            clear hpost hb hq hmay
            go_upto_region 20 with fail
            obtain ⟨w3, hw3⟩ : ∃ W, w2.alloc (.cells #[.slice none 0 0, .slice none 0 0] 25) = W := ⟨_, rfl⟩
            have hA : Pg w3 w2.heap.size none 0 0 none 0 0 := by rw [← hw3]; exact pg_lit _ _ _ rfl _ _ _ _ _ _
            have hb : Below w2.heap.size w2 w3 := by rw [← hw3]; exact below_alc _ _
            rw [hw3]
            clear hw3
            have hA := Lib.hid hA
            have hB2 := Lib.hid (belT hB2.out hb)
            have hQr := Lib.hid (hQr.out.below hb)
            clear hb
            have kQ := Lib.hid (kQ.out w3 hB2.out)
            obtain ⟨q0, q1, q2⟩ := hQr.out
            go_wp2_with fail
            clear q0 q1 q2
            refine kQ.out.mono ?_
            intro e w4 hpost
            obtain ⟨rfl, hb⟩ := res_no hpost hsr.out
            have hA := Lib.hid (hA.out.below hb)
            have hB2 := Lib.hid (belT hB2.out hb)
            have hAl := hA.out.1
            clear hpost hb kQ hQr hsr
            go_upto_region 21 with fail
            obtain ⟨w5, hw5⟩ : ∃ W, w4.alloc (.cells #[.slice none 0 0, .slice none 0 0] 25) = W := ⟨_, rfl⟩
            have hC : Pg w5 w4.heap.size none 0 0 none 0 0 := by rw [← hw5]; exact pg_lit _ _ _ rfl _ _ _ _ _ _
            have hb : Below w4.heap.size w4 w5 := by rw [← hw5]; exact below_alc _ _
            rw [hw5]
            clear hw5
            have hA := Lib.hid (hA.out.below hb)
            have hC := Lib.hid hC
            have hB2 := Lib.hid (belT hBr.out (belT hB2.out hb))
            clear hb
            have kS := Lib.hid (sameProg_any none none none none 0 0 0 0 0 0 0 0 [] [] w5 (Lib.hid ⟨rfl, .inl rfl⟩) (Lib.hid ⟨rfl, .inl rfl⟩) (Lib.hid ⟨rfl, .inl rfl⟩) (Lib.hid ⟨rfl, .inl rfl⟩) (by omega) (by omega))
            obtain ⟨q0, q1, q2⟩ := hA.out
            obtain ⟨r0, r1, r2⟩ := hC.out
            rcases hc with rfl | rfl | rfl
            · go_wp2_with ((go_at_call 9; refine (num_any _ _ (by omega) (by omega)).mono ?_; rintro e w' ⟨rfl, rfl⟩))
              go_ret
              exact ⟨rfl, hB2.out⟩
            all_goals
              go_wp2_with ((go_at_call 9; refine (num_any _ _ (by omega) (by omega)).mono ?_; rintro e w' ⟨rfl, rfl⟩))
              refine kS.out.mono ?_
              rintro e w6 ⟨rfl, hb⟩
              go_wp2_with ((go_at_call 9; refine (num_any _ _ (by omega) (by omega)).mono ?_; rintro e w' ⟨rfl, rfl⟩))
              go_ret
              exact ⟨rfl, belT hB2.out hb⟩
          | ok ss =>
            have hsl0 := Lib.hid (shape_ok hq).1
            obtain ⟨xo, xc, N1, d1, rfl, hb, hown, _, hNl1, hsl⟩ := res_ok hpost hq
            rw [hq] at hsr
            have hB2 := Lib.hid hb
            have hQr := Lib.hid (hQr.out.below hb)
            have hsr := Lib.hid hsr
            have h1 : Hid (OArg w2 xo os.length os) := Lib.hid hown.arg
            have h2 : Hid (NArg w2 (some ⟨N1, 0, none⟩) ss.length ss) := Lib.hid ⟨rfl, .inr ⟨N1, 0, rfl, hsl, hNl1⟩⟩
            clear hpost hb hq hmay hown hsl hNl1
            go_upto_region 20 with fail
            obtain ⟨w3, hww3⟩ : ∃ W, w2.alloc (.cells #[.slice xo os.length xc, .slice (some ⟨N1, 0, none⟩) ss.length d1] 25) = W := ⟨_, rfl⟩
            have hA : Pg w3 w2.heap.size xo os.length xc (some ⟨N1, 0, none⟩) ss.length d1 := by rw [← hww3]; exact pg_lit _ _ _ rfl _ _ _ _ _ _
            have hb : Below w2.heap.size w2 w3 := by rw [← hww3]; exact below_alc _ _
            rw [hww3]
            clear hww3
            have hA := Lib.hid hA
            have h1 := Lib.hid (h1.out.below hb)
            have h2 := Lib.hid (h2.out.below hb)
            have hQr := Lib.hid (hQr.out.below hb)
            have hB2 := Lib.hid (belT hB2.out hb)
            clear hb
            have kQ := Lib.hid (kQ.out w3 hB2.out)
            obtain ⟨q0, q1, q2⟩ := hQr.out
            go_wp2_with fail
            clear q0 q1 q2
            refine kQ.out.mono ?_
            intro e w4 hpost
            obtain ⟨yo, yc, N2, d2, rfl, hb, hown, _, hNl2, hsl⟩ := res_ok hpost hsr.out
            have hA := Lib.hid (hA.out.below hb)
            have hB2 := Lib.hid (belT hB2.out hb)
            have h1 := Lib.hid (h1.out.below hb)
            have h2 := Lib.hid (h2.out.below hb)
            have h3 : Hid (OArg w4 yo os.length os) := Lib.hid hown.arg
            have h4 : Hid (NArg w4 (some ⟨N2, 0, none⟩) ss.length ss) := Lib.hid ⟨rfl, .inr ⟨N2, 0, rfl, hsl, hNl2⟩⟩
            have hAl := hA.out.1
            clear hpost hb kQ hQr hsr hown hsl hNl2
            go_upto_region 21 with fail
            obtain ⟨w5, hww5⟩ : ∃ W, w4.alloc (.cells #[.slice yo os.length yc, .slice (some ⟨N2, 0, none⟩) ss.length d2] 25) = W := ⟨_, rfl⟩
            have hC : Pg w5 w4.heap.size yo os.length yc (some ⟨N2, 0, none⟩) ss.length d2 := by rw [← hww5]; exact pg_lit _ _ _ rfl _ _ _ _ _ _
            have hb : Below w4.heap.size w4 w5 := by rw [← hww5]; exact below_alc _ _
            rw [hww5]
            clear hww5
            have hC := Lib.hid hC
            have h1 := Lib.hid (h1.out.below hb)
            have h2 := Lib.hid (h2.out.below hb)
            have h3 := Lib.hid (h3.out.below hb)
            have h4 := Lib.hid (h4.out.below hb)
            have hA := Lib.hid (hA.out.below hb)
            have hB2 := Lib.hid (belT hBr.out (belT hB2.out hb))
            clear hb
            have hlo : os.length ≤ 140737488351232 := by omega
            have hln : ss.length ≤ 140737488351232 := by have := hsl0.out; omega
            have kS := Lib.hid (sameProg_any xo (some ⟨N1, 0, none⟩) yo (some ⟨N2, 0, none⟩) os.length xc ss.length d1 os.length yc ss.length d2 os ss w5 h1 h2 h3 h4 hlo hln)
            clear hsl0 hlo hln h1 h2 h3 h4
            obtain ⟨q0, q1, q2⟩ := hA.out
            obtain ⟨r0, r1, r2⟩ := hC.out
            go_wp2_with ((go_at_call 9; refine (num_any _ _ (by omega) (by omega)).mono ?_; rintro e w' ⟨rfl, rfl⟩))
            refine kS.out.mono ?_
            rintro e w6 ⟨rfl, hb⟩
            go_wp2_with ((go_at_call 9; refine (num_any _ _ (by omega) (by omega)).mono ?_; rintro e w' ⟨rfl, rfl⟩))
            go_ret
            exact ⟨rfl, belT hB2.out hb⟩
        · have hq := res_may (os := os) (ts := ts) (by cases hh : mayV os ts; rfl; exact absurd hh hmay)
          obtain ⟨rfl, hb⟩ := res_no hpost hq
          have hB2 := Lib.hid hb
          have hQr := Lib.hid (hQr.out.below hb)
          clear hpost hb hq hmay hsr
          go_upto_region 20 with fail
          obtain ⟨w3, hww3⟩ : ∃ W, w2.alloc (.cells #[.slice none 0 0, .slice none 0 0] 25) = W := ⟨_, rfl⟩
          have hA : Pg w3 w2.heap.size none 0 0 none 0 0 := by rw [← hww3]; exact pg_lit _ _ _ rfl _ _ _ _ _ _
          have hb : Below w2.heap.size w2 w3 := by rw [← hww3]; exact below_alc _ _
          rw [hww3]
          clear hww3
          have hA := Lib.hid hA
          have hQr := Lib.hid (hQr.out.below hb)
          have hB2 := Lib.hid (belT hB2.out hb)
          clear hb
          have kQ := Lib.hid (kQ.out w3 hB2.out)
          obtain ⟨q0, q1, q2⟩ := hQr.out
          go_wp2_with fail
          clear q0 q1 q2
          refine kQ.out.mono ?_
          intro e w4 hpost
          obtain ⟨yo, yn, yc, zo, zn, zc, at2, code2, rfl, hb, _⟩ := hpost
          have hB2 := Lib.hid (belT hBr.out (belT hB2.out hb))
          clear hb kQ hQr
          go_wp2_with ((go_at_call 9; refine (num_any _ _ (by omega) (by omega)).mono ?_; rintro e w' ⟨rfl, rfl⟩))
          go_ret
          exact ⟨rfl, belA _ hB2.out⟩
theorem own : ownKnob Tryd.prog.godebug = none := by kernel_rfl
theorem laidOut : laidOutB Tryd.prog = true := by kernel_rfl
set_option maxRecDepth 100000 in
theorem contract (H : Type) (enc : TypeId × Value → H) (W : World) (base : Nat) (args : Array Value) (ds gs : List (DataW H)) (before : List MemPlace)
    (hval0 : ∀ (j : Nat) t v, Tryd.f4.params[j]? = some t → args[j]? = some v → Value.okWide Tryd.prog W .any base t v)
    (hW : DataW.Whole enc Tryd.prog Tryd.f4.params.toList Rows.scopeNamesSpec.vars false W args.toList ds gs before)
    (hsz0 : (DataW.weightsEach Tryd.prog (Tryd.f4.params.toList ++ Rows.scopeNamesSpec.plain.varTypes Tryd.prog) (ds ++ gs)).all (· ≤ reachBytes) = true)
    (hL : laidMetH Tryd.prog Rows.scopeNamesRow.laid W)
    : Calls Tryd.prog 4 args W fun e W' => ∃ v, e = .returned v ∧ Rows.scopeNamesSpec.post enc Tryd.prog Tryd.f4 false true false false W args v W' := by
  have hval : ∀ (j : Nat) t v, Tryd.f4.params[j]? = some t → args[j]? = some v → Value.okWide Tryd.prog W .any base t v := hval0
  have hsz : (DataW.weightsEach Tryd.prog (Tryd.f4.params.toList ++ Rows.scopeNamesSpec.plain.varTypes Tryd.prog) (ds ++ gs)).all (· ≤ reachBytes) = true := hsz0
  have hW' := hW
  obtain ⟨p, q, hA0, hV, rfl, hfz, hnd⟩ := hW
  have hA : DataW.TrodAll enc Tryd.prog W 0 (fun _ => true) true Tryd.f4.params.toList args.toList ds p := hA0
  rw [Tryd.params4] at hA hval hsz
  obtain ⟨v0, vs0, d0, ds0, p0, q0, hargs, rfl, rfl, h0, r0⟩ := trodAll_cons hA
  obtain ⟨rfl, rfl, rfl⟩ := trodAll_nil r0
  obtain rfl : args = #[v0] := by cases args; simp_all
  obtain ⟨rfl, rfl⟩ := trodVars_none hV
  have k0 := h0
  have lt0 : ∀ x ∈ p0, x.block < W.heap.size := by obtain ⟨m, hm⟩ := k0; exact DataW.trod_lt m _ _ _ hm
  obtain ⟨cs0_0, rfl, fit0_0⟩ := open_struct Tryd.underlying25 (f := 6) (by kernel_rfl : flat Tryd.prog 6 25 = some [.sl 22, .sl 23]) (hval 0 25 v0 rfl rfl) h0 (sized_of hsz (j := 0) (t := 25) rfl rfl)
  obtain ⟨_, cs0_1, rfl, ⟨a0_0, n0_0, c0_0, fu0_0, y0_0, rfl, f0_0, g0_0⟩, fit0_1⟩ := fit_i fit0_0
  obtain ⟨_, cs0_2, rfl, ⟨a0_1, n0_1, c0_1, fu0_1, y0_1, rfl, f0_1, g0_1⟩, fit0_2⟩ := fit_i fit0_1
  obtain rfl := fit_nil fit0_2
  clear hA0 hval0
  refine (walk a0_0 n0_0 c0_0 a0_1 n0_1 c0_1 W ⟨_, _, f0_0, g0_0⟩ ⟨_, _, f0_1, g0_1⟩ (tabs hL)).mono fun e W' ⟨he, bel⟩ => ?_
  subst he
  exact ⟨_, rfl, _, _, _, [], _, [], hW', trodAll_mk1 (shut_bool Tryd.underlying4 _), (trodAll_cons_mk (Below.trod laidOut (by kernel_rfl) (of_decide_eq_true (by kernel_rfl)) k0 bel lt0) trodAll_mk0), rfl, bel.frame _, fun h => by cases h⟩
theorem laid_met (os : Os) : laidMetH Tryd.prog Rows.scopeNamesRow.laid ((handleWorld os).forCall (fun _ _ => 0) ⟨#[], #[.agg #[.slice none 0 0, .slice none 0 0]], []⟩).memory := laidMetH_of_parts (laidMet_nil _ _) (by kernel_rfl)
theorem reads (os : Os) {H : Type} (enc : TypeId × Value → H) : ∃ places, DataW.whole enc Tryd.prog ((handleWorld os).forCall (fun _ _ => 0) ⟨#[], #[.agg #[.slice none 0 0, .slice none 0 0]], []⟩).memory Tryd.f4.params.toList Rows.scopeNamesSpec.vars false #[(.agg #[.slice none 0 0, .slice none 0 0] : Value)].toList 8 = some ([.agg [.nil, .nil]], [], places) := ⟨[], by kernel_rfl⟩
set_option maxRecDepth 100000 in
theorem lifted (os : Os) (started : os.Started) (H : Type) (enc : TypeId × Value → H) (F : Stop.Interp) :
    ReturnsInHanded {} Tryd.checked os 4 .any ((OpenSpec.ofChange Rows.scopeNamesSpec).preRow enc Tryd.prog Tryd.f4 Rows.scopeNamesRow.domain false Rows.scopeNamesRow.laid) (((OpenSpec.ofChange Rows.scopeNamesSpec).at F).post enc Tryd.prog Tryd.f4 false true false false) := by
  obtain ⟨places, hx⟩ := reads os enc
  refine returnsInHanded_of_row (C := Tryd.checked) (s := (OpenSpec.ofChange Rows.scopeNamesSpec)) own started (by kernel_rfl) Tryd.func4
    (witness_row_at (enc := enc) (C := Tryd.checked) false (handleWorld os) #[.agg #[.slice none 0 0, .slice none 0 0]] rfl (by kernel_rfl) (by kernel_rfl) (by kernel_rfl)
      (OpenSpec.preRow_of_cond 8 hx (by kernel_rfl) (fun k hk => by cases hk) (by kernel_rfl) (laid_met os))) ?_
  intro W base args ds gs before hval hW _ hcnd hsz hL _ _
  exact contract H enc W base args ds gs before hval hW hsz  hL
theorem said : Rows.ScopeNamesSaid :=
  OpenClaim.holds_of_cond 4 Tryd.f4 rfl rfl rfl rfl rfl rfl rfl ⟨rfl, rfl, rfl, rfl, rfl⟩ rfl rfl rfl rfl rfl (by kernel_rfl) Tryd.func4 (by kernel_rfl)
    (of_decide_eq_true (by kernel_rfl)) (by unfold Func.isWrapper; first | (rw [if_pos (by decide +kernel)]; kernel_rfl) | (rw [if_neg (by decide +kernel)]; exact ⟨rfl, rfl⟩))
    (fun os started H enc _ F => by rw [OpenClaim.pre_eq_preRow]; exact lifted os started H enc F)
theorem plain (f : FuncId) (fn : Func) (hf : Tryd.pinned.checked.prog.funcNamed "trammel/trammellaw6.ScopeNames" = some f) (hfn : Tryd.pinned.checked.prog.funcs[f]? = some fn) :
    true = Tryd.pinned.checked.prog.looks [] ∧ ∀ (j : Nat) t, fn.params[j]? = some t → Tryd.pinned.checked.prog.wantsStandIn t = false := by
  obtain rfl : f = 4 := Option.some.inj ((show Tryd.prog.funcNamed "trammel/trammellaw6.ScopeNames" = some 4 by kernel_rfl).symm.trans hf) |>.symm
  obtain rfl : fn = Tryd.f4 := (Option.some.inj (Tryd.func4.symm.trans hfn)).symm
  refine ⟨by kernel_rfl, fun j t ht => ?_⟩
  rw [Tryd.params4] at ht
  have hm := Array.mem_of_getElem? ht
  have hm2 : t ∈ ([25] : List Nat) := by simpa using hm
  simp only [List.mem_cons, List.not_mem_nil, or_false] at hm2
  subst hm2; exact (show Tryd.prog.wantsStandIn 25 = false by kernel_rfl)
theorem proved : Rows.ScopeNamesCardSaid :=
  Claim7.holds_tied_plain_at .later [] _ _ _ _ said (fun _ h => by cases h) (by kernel_rfl) (fun _ h => by cases h) scopeNames_row_tie rfl ⟨rfl, rfl⟩ (by kernel_rfl) rfl plain (by kernel_rfl)
end Go.Proofs.YtfajbkpeioejoaaDoor.scopeNames
