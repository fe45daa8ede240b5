/- Schemes holds for every type, numbers, scheme, types and rows. No condition. -/
import Derived.Test.YtjhmdobmbajcgaaRows
import Derived.WalkKit
import Derived.ProofKit
import Derived.OpenShut
import Derived.ShutString
import Derived.ChangeOld
import Derived.Below
import Derived.SizedLaws
import Derived.Carry
import Derived.Lib.SmallJoins
import Derived.Test.YtjhmdobmbajcgaaTkE
import Derived.Test.YtjhmdobmbajcgaaLnM
import Derived.Deep.RegionHeld3
namespace Go.Proofs.Ytjhmdobmbajcgaa.schemes
open Go.ChangeShapes Go.WideShapes Go.ChangeAt Go.RowKit
open Go.ChangeMaps (open_string shut_string)
set_option linter.unusedVariables false
set_option linter.unusedSimpArgs false

/-- behind the copies. -/
def Mid (W1 : World) (vs us : List Int) (ss : List Ty) (s14 : Value) (W : World) : Prop :=
  ∃ G g1 n1 d1 g2 n2 d2 a n c, s14 = .pointer (some ⟨G, 0, none⟩) ∧ ScAt W G (.slice (some ⟨g1, 0, none⟩) n1 d1) (.slice (some ⟨g2, 0, none⟩) n2 d2) (.slice a n c) ∧ IsArg W (some ⟨g1, 0, none⟩) n1 vs ∧ IsArg W (some ⟨g2, 0, none⟩) n2 us ∧ TyArg W a n ss ∧ Below W1.heap.size W1 W
def ScFr (w : World) (g : Nat) : Prop := (g < w.heap.size ∧ w.cell? ⟨g, 0, none⟩ = some (.slice none 0 0) ∧ w.cell? ⟨g, 1, none⟩ = some (.slice none 0 0) ∧ w.cell? ⟨g, 2, none⟩ = some (.slice none 0 0)) ∧ w.frozen? ⟨g, 0, none⟩ = false ∧ w.frozen? ⟨g, 1, none⟩ = false ∧ w.frozen? ⟨g, 2, none⟩ = false
theorem ScFr.below {w w' : World} {g : Nat} (h : ScFr w g) (hb : Below w.heap.size w w') : ScFr w' g := by
  obtain ⟨⟨h0, h1, h2, h3⟩, h4, h5, h6⟩ := h
  exact ⟨⟨by have := hb.size; omega, carry hb h0 h1, carry hb h0 h2, carry hb h0 h3⟩, (hb.frozen (p := ⟨g, 0, none⟩) h0).trans h4, (hb.frozen (p := ⟨g, 1, none⟩) h0).trans h5, (hb.frozen (p := ⟨g, 2, none⟩) h0).trans h6⟩
theorem ScFr.drew {w : World} {g : Nat} (h : ScFr w g) : ScFr w.drew g := h.below ((Below.refl _ _).drew)
theorem scfr_lit (w : World) (T : TypeId) : ScFr (w.alloc (.cells #[.slice none 0 0, .slice none 0 0, .slice none 0 0] T)) w.heap.size :=
  ⟨⟨by simp, by simp, by simp, by simp⟩, by simp [go_sem], by simp [go_sem], by simp [go_sem]⟩
theorem st_go {W1 W W' : World} {g : Nat} {v1 v2 v3 : Value} (hg : g < W1.heap.size) (H : W.cell? ⟨g, 0, none⟩ = some v1 ∧ W.cell? ⟨g, 1, none⟩ = some v2 ∧ W.cell? ⟨g, 2, none⟩ = some v3 ∧ Below W1.heap.size W1 W) (hb : Below W.heap.size W W') : W'.cell? ⟨g, 0, none⟩ = some v1 ∧ W'.cell? ⟨g, 1, none⟩ = some v2 ∧ W'.cell? ⟨g, 2, none⟩ = some v3 ∧ Below W1.heap.size W1 W' := by
  obtain ⟨h1, h2, h3, h4⟩ := H
  have := h4.size
  exact ⟨carry hb (by omega) h1, carry hb (by omega) h2, carry hb (by omega) h3, belT h4 hb⟩
theorem st_set {W1 W : World} {g k o : Nat} {v1 v2 v3 x : Value} (hg : g < W1.heap.size) (hk : W1.heap.size ≤ k) (H : W.cell? ⟨g, 0, none⟩ = some v1 ∧ W.cell? ⟨g, 1, none⟩ = some v2 ∧ W.cell? ⟨g, 2, none⟩ = some v3 ∧ Below W1.heap.size W1 W) : (W.setCell ⟨k, o, none⟩ x).cell? ⟨g, 0, none⟩ = some v1 ∧ (W.setCell ⟨k, o, none⟩ x).cell? ⟨g, 1, none⟩ = some v2 ∧ (W.setCell ⟨k, o, none⟩ x).cell? ⟨g, 2, none⟩ = some v3 ∧ Below W1.heap.size W1 (W.setCell ⟨k, o, none⟩ x) := by
  obtain ⟨h1, h2, h3, h4⟩ := H
  exact ⟨setO h1 (by intro e; injection e with e; omega), setO h2 (by intro e; injection e with e; omega), setO h3 (by intro e; injection e with e; omega), h4.setCell (by show W1.heap.size ≤ k; exact hk) _⟩
theorem st_bel {W1 W : World} {g : Nat} {v1 v2 v3 : Value} (H : W.cell? ⟨g, 0, none⟩ = some v1 ∧ W.cell? ⟨g, 1, none⟩ = some v2 ∧ W.cell? ⟨g, 2, none⟩ = some v3 ∧ Below W1.heap.size W1 W) : Below W1.heap.size W1 W := H.2.2.2
theorem ad_eq {g q off : Nat} (h : (some ⟨g, 0, none⟩ : Option Addr) = some ⟨q, off, none⟩) : g = q := by injection h with h; injection h
theorem isArg_lt {w : World} {g n : Nat} {l : List Int} (h : IsArg w (some ⟨g, 0, none⟩) n l) : l = [] ∨ g < w.heap.size := by
  obtain ⟨_, h | ⟨b, off, h2, _, h4⟩⟩ := h
  · exact .inl h
  · injection h2 with h2; injection h2 with h5 h6 _; subst h5
    exact .inr h4
theorem isArg_put {w : World} {g n k o : Nat} {v : Value} {l : List Int} (h : IsArg w (some ⟨g, 0, none⟩) n l) (hne : l = [] ∨ g ≠ k) : IsArg (w.setCell ⟨k, o, none⟩ v) (some ⟨g, 0, none⟩) n l := by
  rcases hne with hne | hne
  · exact ⟨h.1, .inl hne⟩
  · exact h.bar (Bar.set (S := fun q => q = k) _ _ rfl) (by intro q1 q2 q3; have q4 := ad_eq q3; intro q5; have q5 : q1 = _ := q5; omega)
theorem mid_end {W1 W : World} {vs us : List Int} {ss : List Ty} {g1 n1 d1 g2 n2 d2 n c : Nat} {a : Option Addr} {T : TypeId} (h1 : IsArg W (some ⟨g1, 0, none⟩) n1 vs) (h2 : IsArg W (some ⟨g2, 0, none⟩) n2 us) (h3 : TyArg W a n ss) (hB : Below W1.heap.size W1 W) :
    Mid W1 vs us ss (.pointer (some ⟨W.heap.size, 0, none⟩)) (W.alloc (.cells #[.slice (some ⟨g1, 0, none⟩) n1 d1, .slice (some ⟨g2, 0, none⟩) n2 d2, .slice a n c] T)) :=
  ⟨_, g1, n1, d1, g2, n2, d2, a, n, c, rfl, sc_lit _ _ _ _ _ _ rfl, h1.alloc _, h2.alloc _, h3.alloc _, belA _ hB⟩
theorem mid_set {W1 W : World} {B G : Nat} {vs us : List Int} {ss : List Ty} {g1 n1 d1 g2 n2 d2 n c : Nat} {a : Option Addr} (k : ScFr W G) (h1 : IsArg W (some ⟨g1, 0, none⟩) n1 vs) (e1 : vs = [] ∨ g1 ≠ G) (h2 : IsArg W (some ⟨g2, 0, none⟩) n2 us) (e2 : us = [] ∨ g2 ≠ G) (h3 : OwnT B W (.slice a n c) ss) (e3 : G < B) (hG : W1.heap.size ≤ G) (hB : Below W1.heap.size W1 W) :
    Mid W1 vs us ss (.pointer (some ⟨G, 0, none⟩)) (((W.setCell ⟨G, 0, none⟩ (.slice (some ⟨g1, 0, none⟩) n1 d1)).setCell ⟨G, 1, none⟩ (.slice (some ⟨g2, 0, none⟩) n2 d2)).setCell ⟨G, 2, none⟩ (.slice a n c)) := by
  obtain ⟨⟨k0, k1, k2, k3⟩, _, _, _⟩ := k
  refine ⟨G, g1, n1, d1, g2, n2, d2, a, n, c, rfl, ⟨by simpa using k0, ?_, ?_, ?_⟩, isArg_put (isArg_put (isArg_put h1 e1) e1) e1, isArg_put (isArg_put (isArg_put h2 e2) e2) e2, (ownT_put (ownT_put (ownT_put h3 e3) e3) e3).arg, ((hB.setCell (by exact hG) _).setCell (by exact hG) _).setCell (by exact hG) _⟩
  · exact setO (setO (setS k1) (by simp)) (by simp)
  · exact setO (setS (setO k2 (by simp))) (by simp)
  · exact setS (setO (setO k3 (by simp)) (by simp))
theorem clo_all (ts : List Ty) (ks ms : List Int) : ∃ (L1 L2 : List Int) (L3 : List Ty) (E : Int), (0 ≤ E ∧ E ≤ 1200) ∧ (L1.length ≤ 256 ∧ L2.length ≤ 256 ∧ L3.length ≤ 256) ∧ ∀ w e w', CloPost ts ks ms w e w' → ∃ v1 v2 v3, e = .returned (.tuple #[.agg #[v1, v2, v3], .int .i64 E]) ∧ OwnI w.heap.size w' v1 L1 ∧ OwnI w.heap.size w' v2 L2 ∧ OwnT w.heap.size w' v3 L3 ∧ (∀ k, v1.ownBlock = some k → ¬ v2.ownBlock = some k) ∧ Below w.heap.size w w' := by
  unfold CloPost
  cases htv : tyV ts
  · refine ⟨[], [], [], 1200, by omega, ⟨by simp, by simp, by simp⟩, fun w e w' hp => ?_⟩
    rw [if_neg (by decide)] at hp
    obtain ⟨rfl, hb⟩ := hp
    exact ⟨_, _, _, rfl, OwnI.nil _ _, OwnI.nil _ _, OwnT.nil _ _, fun k hk => by simp [Value.ownBlock] at hk, hb⟩
  · have t1 := tvs_len (treeOf ts) []
    have t2 := rvs_len (treeOf ts) []
    have hsz := (tyV_of htv).2.2.2.1
    have w1l := woI_len (tvs (treeOf ts) []) ks
    have w2l := woI_len (rvs (treeOf ts) []) ms
    simp only [List.length_nil] at t1 t2
    refine ⟨woI (tvs (treeOf ts) []) ks, woI (rvs (treeOf ts) []) ms, ts, 0, by omega, ⟨by omega, by omega, (tyV_le htv).2⟩, fun w e w' hp => ?_⟩
    rw [if_pos rfl] at hp
    exact hp
theorem tkT_len (ks : List Int) (xs : List Tp) (ms : List Int) (rs : List Rw) (ts : List Ty) : (tkT ks xs ms rs ts).length ≤ 256 := by
  unfold tkT
  split
  · unfold subT
    split
    · split
      · rename_i h
        rw [fl_len]
        unfold TT.fits at h
        simp only [Bool.and_eq_true, decide_eq_true_eq] at h
        exact h.1
      · simp
    · simp
  · simp
set_option maxRecDepth 100000 in
set_option maxHeartbeats 8000000 in
theorem walk {H : Type} {enc : TypeId × Value → H} (p0 : Option Addr) (n0 c0 : Nat) (p1 : Option Addr) (n1 c1 : Nat) (p2 : Option Addr) (n2 c2 : Nat) (q1 : Option Addr) (m1 e1 : Nat) (q2 : Option Addr) (m2 e2 : Nat) (q3 : Option Addr) (m3 e3 : Nat) (p4 : Option Addr) (n4 c4 : Nat) (p5 : Option Addr) (n5 c5 : Nat) (w : World)
    (f0 : ∃ fuel y, DataW.trod enc Try.prog w 0 (fun _ => true) true fuel 23 [.slice p0 n0 c0] = some y ∧ ∀ x ∈ DataW.weights Try.prog 23 y.1, x ≤ reachBytes)
    (f1 : ∃ fuel y, DataW.trod enc Try.prog w 0 (fun _ => true) true fuel 54 [.slice p1 n1 c1] = some y ∧ ∀ x ∈ DataW.weights Try.prog 54 y.1, x ≤ reachBytes)
    (f2 : ∃ fuel y, DataW.trod enc Try.prog w 0 (fun _ => true) true fuel 54 [.slice p2 n2 c2] = some y ∧ ∀ x ∈ DataW.weights Try.prog 54 y.1, x ≤ reachBytes)
    (g1 : ∃ fuel y, DataW.trod enc Try.prog w 0 (fun _ => true) true fuel 54 [.slice q1 m1 e1] = some y ∧ ∀ x ∈ DataW.weights Try.prog 54 y.1, x ≤ reachBytes)
    (g2 : ∃ fuel y, DataW.trod enc Try.prog w 0 (fun _ => true) true fuel 54 [.slice q2 m2 e2] = some y ∧ ∀ x ∈ DataW.weights Try.prog 54 y.1, x ≤ reachBytes)
    (g3 : ∃ fuel y, DataW.trod enc Try.prog w 0 (fun _ => true) true fuel 23 [.slice q3 m3 e3] = some y ∧ ∀ x ∈ DataW.weights Try.prog 23 y.1, x ≤ reachBytes)
    (f4 : ∃ fuel y, DataW.trod enc Try.prog w 0 (fun _ => true) true fuel 57 [.slice p4 n4 c4] = some y ∧ ∀ x ∈ DataW.weights Try.prog 57 y.1, x ≤ reachBytes)
    (f5 : ∃ fuel y, DataW.trod enc Try.prog w 0 (fun _ => true) true fuel 58 [.slice p5 n5 c5] = some y ∧ ∀ x ∈ DataW.weights Try.prog 58 y.1, x ≤ reachBytes) :
    Calls Try.prog 7 #[.agg #[.slice p0 n0 c0], .slice p1 n1 c1, .slice p2 n2 c2, .agg #[.slice q1 m1 e1, .slice q2 m2 e2, .slice q3 m3 e3], .slice p4 n4 c4, .slice p5 n5 c5] w fun e w' => e = .returned (.bool true) ∧ Below w.heap.size w w' := by
  obtain ⟨_, _, t, t'⟩ := f0
  obtain ⟨hl0, ts, hT⟩ := ty_open t t'
  clear t t'
  obtain ⟨_, _, t, t'⟩ := f1
  obtain ⟨hl1, ks, hK, _⟩ := is_open t t'
  clear t t'
  obtain ⟨_, _, t, t'⟩ := f2
  obtain ⟨hl2, ms, hM, _⟩ := is_open t t'
  clear t t'
  obtain ⟨_, _, t, t'⟩ := g1
  obtain ⟨hk1, vs, hV, hwv⟩ := is_open t t'
  have hcv := is_cap t t'
  clear t t'
  obtain ⟨_, _, t, t'⟩ := g2
  obtain ⟨hk2, us, hU, hwu⟩ := is_open t t'
  have hcu := is_cap t t'
  clear t t'
  obtain ⟨_, _, t, t'⟩ := g3
  obtain ⟨hk3, ss, hS⟩ := ty_open t t'
  clear t t'
  obtain ⟨_, _, t, t'⟩ := f4
  obtain ⟨hl4, xs, hX⟩ := tp_open t t'
  clear t t'
  obtain ⟨_, _, t, t'⟩ := f5
  obtain ⟨hl5, rs, hR⟩ := rw_open t t'
  clear t t'
  have hT := Lib.hid hT; have hK := Lib.hid hK; have hM := Lib.hid hM; have hV := Lib.hid hV; have hU := Lib.hid hU; have hS := Lib.hid hS; have hX := Lib.hid hX; have hR := Lib.hid hR
  have hwv := Lib.hid hwv; have hwu := Lib.hid hwu
  go_enter Try.func7, Try.ntmps7
  go_wp2_with fail
  refine (copyType_any p0 n0 c0 ts _ (Lib.hid (by exact TyArg.alloc _ (TyArg.alloc _ hT.out))) hl0).mono ?_
  rintro e w1 ⟨v13, rfl, hv13, hb1⟩
  obtain ⟨a13, n13, c13, rfl⟩ := ownT_sl hv13
  have hB0 : Below w.heap.size w w1 := belT (below_alc2 w _ _) hb1
  have hB1 := Lib.hid (belA (.cells #[.slice a13 n13 c13] 25) hB0)
  have hX6 : Hid (BoxAt (w1.alloc (.cells #[.slice a13 n13 c13] 25)) w.heap.size (.slice p0 n0 c0)) := Lib.hid (BoxAt.alloc _ (BoxAt.below (by exact BoxAt.alloc _ (box_lit _ _ _ _ rfl)) hb1))
  have hS9 : Hid (ScAt (w1.alloc (.cells #[.slice a13 n13 c13] 25)) (w.heap.size + 1) (.slice q1 m1 e1) (.slice q2 m2 e2) (.slice q3 m3 e3)) := Lib.hid (ScAt.alloc _ (ScAt.below (by exact sc_lit _ _ _ _ _ _ (by simp)) hb1))
  have hX13 : Hid (BoxAt (w1.alloc (.cells #[.slice a13 n13 c13] 25)) w1.heap.size (.slice a13 n13 c13)) := Lib.hid (box_lit _ _ _ _ rfl)
  have hT13 := Lib.hid (hv13.arg.alloc (.cells #[.slice a13 n13 c13] 25))
  clear hv13 hb1 hB0
  go_upto_region 2 with fail
  generalize hW1 : (w1.alloc (.cells #[.slice a13 n13 c13] 25)) = W1 at hB1 hX6 hS9 hX13 hT13 ⊢
  clear hW1
  go_cut [14] (fun s14 W => Mid W1 vs us ss s14 W)
  case first =>
    have hst := Lib.hid (show W1.cell? ⟨w.heap.size + 1, 0, none⟩ = some (.slice q1 m1 e1) ∧ W1.cell? ⟨w.heap.size + 1, 1, none⟩ = some (.slice q2 m2 e2) ∧ W1.cell? ⟨w.heap.size + 1, 2, none⟩ = some (.slice q3 m3 e3) ∧ Below W1.heap.size W1 W1 from ⟨hS9.out.2.1, hS9.out.2.2.1, hS9.out.2.2.2, Below.refl _ _⟩)
    have hg := Lib.hid hS9.out.1
    have kV := Lib.hid fun (W : World) (hb : Below W1.heap.size W1 W) => lendInts_any q1 m1 e1 vs W (Lib.hid (hV.out.below (hB1.out.trans (hb.mono hB1.out.size)))) hk1
    have kU := Lib.hid fun (W : World) (hb : Below W1.heap.size W1 W) => lendInts_any q2 m2 e2 us W (Lib.hid (hU.out.below (hB1.out.trans (hb.mono hB1.out.size)))) hk2
    have kT := Lib.hid fun (W : World) (hb : Below W1.heap.size W1 W) => copyType_any q3 m3 e3 ss W (Lib.hid (hS.out.below (hB1.out.trans (hb.mono hB1.out.size)))) hk3
    go_region_held3 (fun W => W.cell? ⟨w.heap.size + 1, 0, none⟩ = some (.slice q1 m1 e1) ∧ W.cell? ⟨w.heap.size + 1, 1, none⟩ = some (.slice q2 m2 e2) ∧ W.cell? ⟨w.heap.size + 1, 2, none⟩ = some (.slice q3 m3 e3) ∧ Below W1.heap.size W1 W)
      (repeat (first | with_reducible exact hS12.out | with_reducible exact hS11.out | with_reducible exact hS10.out | with_reducible exact hst.out | with_reducible refine st_go hg.out ?_ (below_alc _ _) | with_reducible refine st_go hg.out ?_ ((Below.refl _ _).drew) | with_reducible refine st_set hg.out (by omega) ?_))
      ((first
        | (go_at_call 23; have hh := hS10; clear hh; refine (kU.out _ (by first | exact st_bel (by assumption) | skip)).mono ?_; rintro e w11 ⟨g11, d11, rfl, hd11, hg11, hI11, hb11⟩; have hS11 := Lib.hid (st_go hg.out (by assumption) hb11); have hs11 := (st_bel hS11.out).size; have hc11 := belT (show Below w10.heap.size w10 _ from by repeat (first | with_reducible exact Below.refl _ _ | with_reducible refine Below.drew ?_ | with_reducible refine belA _ ?_)) hb11; (try (with_reducible (have k2 := ScFr.below k1 hb11))); (try (with_reducible (have k2 := ScFr.below (ScFr.drew k1) hb11))); (try (with_reducible (have k2 := ScFr.below (scfr_lit w10 56) hb11))); (try (with_reducible (have k2 := ScFr.below (ScFr.drew (scfr_lit w10 56)) hb11))))
        | (go_at_call 23; refine (kV.out _ (by first | exact st_bel (by assumption) | skip)).mono ?_; rintro e w10 ⟨g10, d10, rfl, hd10, hg10, hI10, hb10⟩; have hS10 := Lib.hid (st_go hg.out (by assumption) hb10); have hs10 := (st_bel hS10.out).size; (try (with_reducible (have k1 := ScFr.below (scfr_lit W1 56) hb10))); (try (with_reducible (have k1 := ScFr.below (ScFr.drew (scfr_lit W1 56)) hb10))))
        | (go_at_call 13; refine (kT.out _ (by first | exact st_bel (by assumption) | skip)).mono ?_; rintro e w12 ⟨v12, rfl, hv12, hb12⟩; have hS12 := Lib.hid (st_go hg.out (by assumption) hb12); have hc12 := belT (show Below w11.heap.size w11 _ from by repeat (first | with_reducible exact Below.refl _ _ | with_reducible refine Below.drew ?_ | with_reducible refine belA _ ?_)) hb12; obtain ⟨a12, n12, c12, rfl⟩ := ownT_sl hv12; (try (with_reducible (have k3 := ScFr.below k2 hb12))); (try (with_reducible (have k3 := ScFr.below (ScFr.drew k2) hb12))); (try (with_reducible (have k3 := ScFr.below (scfr_lit w11 56) hb12))); (try (with_reducible (have k3 := ScFr.below (ScFr.drew (scfr_lit w11 56)) hb12))); (try (have k4 := k3; obtain ⟨⟨k40, k41, k42, k43⟩, k44, k45, k46⟩ := k4)))))
    all_goals (go_wp2_with fail; go_meet)
    · exact mid_end ((hI10.below hc11).below hc12) (hI11.below hc12) hv12.arg (st_bel hS12.out)
    all_goals (have hz10 := hb10.size; have hz11 := hb11.size; have hz12 := hb12.size; (try simp at hz10); (try simp at hz11); (try simp at hz12); (try simp at hg10); (try simp at hg11); have hj10 := isArg_lt hI10; have hj11 := isArg_lt hI11)
    all_goals exact mid_set k3 ((hI10.below hc11).below hc12) (by rcases hj10 with h | h; exact .inl h; exact .inr (by omega)) (hI11.below hc12) (by rcases hj11 with h | h; exact .inl h; exact .inr (by omega)) hv12 (by (try simp); (try omega)) (by omega) (st_bel hS12.out)
  case rest =>
    rename World => W2
    obtain ⟨G, g1, n1', d1, g2, n2', d2, a14, n14, c14, rfl, F14, k1, k2, k3, hBc⟩ := hcut
    obtain ⟨L1, L2, L3, E1, hE1, ⟨hb1l, hb2l, hb3l⟩, hcl⟩ := clo_all ts ks ms
    have hcl := Lib.hid hcl
    rename_i hcl0
    clear hcl0
    have hW := Lib.hid (belT hB1.out hBc)
    have F13 := Lib.hid (hX13.out.below hBc)
    have F6 := Lib.hid (hX6.out.below hBc)
    have F9 := Lib.hid (hS9.out.below hBc)
    have F14 := Lib.hid F14
    have hT13 := Lib.hid (hT13.out.below hBc)
    have hT := Lib.hid (hT.out.below hW.out); have hK := Lib.hid (hK.out.below hW.out); have hM := Lib.hid (hM.out.below hW.out); have hV := Lib.hid (hV.out.below hW.out); have hU := Lib.hid (hU.out.below hW.out); have hS := Lib.hid (hS.out.below hW.out); have hX := Lib.hid (hX.out.below hW.out); have hR := Lib.hid (hR.out.below hW.out)
    have hk1' := Lib.hid k1; have hk2' := Lib.hid k2; have hk3' := Lib.hid k3
    have hn13 : n13 ≤ 140737488351232 := by have := hT13.out.1; have := hT.out.1; omega
    have hm1 : n1' ≤ 140737488351232 := by have := k1.1; have := hV.out.1; omega
    have hm2 : n2' ≤ 140737488351232 := by have := k2.1; have := hU.out.1; omega
    have hm3 : n14 ≤ 140737488351232 := by have := k3.1; have := hS.out.1; omega
    clear hB1 hX13 hX6 hS9 hBc k1 k2 k3
    obtain ⟨x0, x1⟩ := F13.out
    go_wp2_with fail
    clear x0 x1
    refine (close_any a13 p1 p2 n13 c13 n1 c1 n2 c2 ts ks ms _ hT13 hK hM hn13 (by omega) (by omega)).mono ?_
    rintro e w3 hp
    obtain ⟨v1, v2, v3, rfl, hv1, hv2, hv3, hne, hb3⟩ := hcl.out _ _ _ hp
    obtain ⟨u1, i1, j1, rfl⟩ := ownI_sl hv1
    obtain ⟨u2, i2, j2, rfl⟩ := ownI_sl hv2
    obtain ⟨u3, i3, j3, rfl⟩ := ownT_sl hv3
    have hv1 := Lib.hid hv1; have hv2 := Lib.hid hv2; have hv3 := Lib.hid hv3; have hne := Lib.hid hne; have hD3 := Lib.hid hb3
    have hs1 := Lib.hid (own_lt hv1.out); have hs2 := Lib.hid (own_lt hv2.out); have hs3 := Lib.hid (own_lt hv3.out)
    rename_i z1 z2 z3 z4
    clear z1 z2 z3 z4 hp hb3
    obtain ⟨x0, x1⟩ := F6.out.below hD3.out
    have x2 : w.heap.size < w3.heap.size + 1 := by omega
    go_wp2_with fail
    clear x0 x1 x2
    refine (rclose_any p0 p1 p2 n0 c0 n1 c1 n2 c2 ts ks ms _ (Lib.hid (hT.out.below (belA _ hD3.out))) (Lib.hid (hK.out.below (belA _ hD3.out))) (Lib.hid (hM.out.below (belA _ hD3.out))) (by omega) (by omega) (by omega)).mono ?_
    rintro e w4 hp
    obtain ⟨v1, v2, v3, rfl, hy1, hy2, hy3, _, hb4⟩ := hcl.out _ _ _ hp
    obtain ⟨y1, i4, j4, rfl⟩ := ownI_sl hy1
    obtain ⟨y2, i5, j5, rfl⟩ := ownI_sl hy2
    obtain ⟨y3, i6, j6, rfl⟩ := ownT_sl hy3
    have A1 := Lib.hid hy1.arg; have A2 := Lib.hid hy2.arg; have A3 := Lib.hid hy3.arg
    have hD4 := Lib.hid (belT (belA _ hD3.out) hb4)
    have F15 : Hid (ScAt w4 w3.heap.size (.slice u1 i1 j1) (.slice u2 i2 j2) (.slice u3 i3 j3)) := Lib.hid (ScAt.below (by exact sc_lit _ _ _ _ _ _ rfl) hb4)
    have hv1 := Lib.hid ((hv1.out.below (below_alc _ _)).below hb4); have hv2 := Lib.hid ((hv2.out.below (below_alc _ _)).below hb4); have hv3 := Lib.hid ((hv3.out.below (below_alc _ _)).below hb4)
    have hsz3 := hb4.size
    simp only [World.alloc, Array.size_push] at hsz3
    clear hp hb4 hy1 hy2 hy3
    obtain ⟨x0, x1, x2, x3⟩ := F14.out.below hD4.out
    have x4 : G < w4.heap.size + 1 := by omega
    go_wp2_with fail
    clear x0 x1 x2 x3 x4
    refine (take2_any _ _ _ _ _ _ _ _ _ _ _ _ _ _ _ vs us ss xs rs _ (Lib.hid (hk1'.out.below (belA _ hD4.out))) (Lib.hid (hk2'.out.below (belA _ hD4.out))) (Lib.hid (hk3'.out.below (belA _ hD4.out))) (Lib.hid (hX.out.below (belA _ hD4.out))) (Lib.hid (hR.out.below (belA _ hD4.out))) hwv hwu hm1 hm2 hm3 (by omega) (by omega)).mono ?_
    rintro e w5 ⟨v5, rfl, hv5, hb5⟩
    obtain ⟨u5, i7, j7, rfl⟩ := ownT_sl hv5
    have hv5 := Lib.hid hv5
    have hs5 := Lib.hid (own_lt hv5.out)
    rename_i z1
    have hD5 := Lib.hid (belT (belA _ hD4.out) hb5)
    have F15 := Lib.hid (ScAt.below (by exact F15.out.alloc _) hb5)
    have F17 : Hid (ScAt w5 w4.heap.size (.slice y1 i4 j4) (.slice y2 i5 j5) (.slice y3 i6 j6)) := Lib.hid (ScAt.below (by exact sc_lit _ _ _ _ _ _ rfl) hb5)
    have hv1 := Lib.hid ((hv1.out.below (below_alc _ _)).below hb5); have hv2 := Lib.hid ((hv2.out.below (below_alc _ _)).below hb5); have hv3 := Lib.hid ((hv3.out.below (below_alc _ _)).below hb5)
    have A1 := Lib.hid ((A1.out.below (below_alc _ _)).below hb5); have A2 := Lib.hid ((A2.out.below (below_alc _ _)).below hb5); have A3 := Lib.hid ((A3.out.below (below_alc _ _)).below hb5)
    have hsz4 := hb5.size
    simp only [World.alloc, Array.size_push] at hsz4
    clear z1 hb5
    obtain ⟨x0, x1, x2, x3⟩ := F9.out.below hD5.out
    have x4 : w.heap.size + 1 < w5.heap.size + 1 := by omega
    go_wp2_with fail
    clear x0 x1 x2 x3 x4
    refine (rtake_any _ _ _ _ _ _ _ _ _ _ _ _ _ _ _ vs us ss xs rs _ (Lib.hid (hV.out.below (belA _ hD5.out))) (Lib.hid (hU.out.below (belA _ hD5.out))) (Lib.hid (hS.out.below (belA _ hD5.out))) (Lib.hid (hX.out.below (belA _ hD5.out))) (Lib.hid (hR.out.below (belA _ hD5.out))) (by omega) (by omega) (by omega) (by omega) (by omega) hcv hcu).mono ?_
    rintro e w6 ⟨v6, rfl, hv6, hb6⟩
    obtain ⟨u6, i8, j8, rfl⟩ := ownT_sl hv6
    have A6 := Lib.hid hv6.arg
    have hD6 := Lib.hid (belT (belA _ hD5.out) hb6)
    have F15 := Lib.hid (ScAt.below (by exact F15.out.alloc _) hb6)
    have F17 := Lib.hid (ScAt.below (by exact F17.out.alloc _) hb6)
    have F19 : Hid (BoxAt w6 w5.heap.size (.slice u5 i7 j7)) := Lib.hid (BoxAt.below (by exact box_lit _ _ _ _ rfl) hb6)
    have hv1 := Lib.hid ((hv1.out.below (below_alc _ _)).below hb6); have hv2 := Lib.hid ((hv2.out.below (below_alc _ _)).below hb6); have hv3 := Lib.hid ((hv3.out.below (below_alc _ _)).below hb6); have hv5 := Lib.hid ((hv5.out.below (below_alc _ _)).below hb6)
    have A1 := Lib.hid ((A1.out.below (below_alc _ _)).below hb6); have A2 := Lib.hid ((A2.out.below (below_alc _ _)).below hb6); have A3 := Lib.hid ((A3.out.below (below_alc _ _)).below hb6)
    have hsz5 := hb6.size
    simp only [World.alloc, Array.size_push] at hsz5
    have hE2 := tkE_bd vs xs us rs ss
    have hT2 := tkT_len vs xs us rs ss
    generalize tkE vs xs us rs ss = E2 at hE2 ⊢
    generalize tkT vs xs us rs ss = T2 at hT2 hv5 A6
    clear hv6 hb6 hX hR hK hM
    have hi1 : i1 ≤ 256 := by have := hv1.out.arg.1; omega
    have hi2 : i2 ≤ 256 := by have := hv2.out.arg.1; omega
    have hi3 : i3 ≤ 256 := by have := hv3.out.arg.1; omega
    have hi7 : i7 ≤ 256 := by have := hv5.out.arg.1; omega
    have F21 : Hid (BoxAt (w6.alloc (.cells #[.slice u6 i8 j8] 25)) w6.heap.size (.slice u6 i8 j8)) := Lib.hid (box_lit _ _ _ _ rfl)
    obtain ⟨x0, x1, x2, x3⟩ := F15.out
    obtain ⟨z0, z1, z2, z3⟩ := F17.out
    have x4 : w3.heap.size < w6.heap.size + 1 := by omega
    have z4 : w4.heap.size < w6.heap.size + 1 := by omega
    go_wp2_with fail
    clear x0 x1 x2 x3 x4 z0 z1 z2 z3 z4
    refine (sameScheme_any u1 i1 j1 u2 i2 j2 u3 i3 j3 y1 i4 j4 y2 i5 j5 y3 i6 j6 L1 L1 L2 L2 L3 L3 _ (Lib.hid (hv1.out.arg.alloc _)) (Lib.hid (hv2.out.arg.alloc _)) (Lib.hid (hv3.out.arg.alloc _)) (Lib.hid (A1.out.alloc _)) (Lib.hid (A2.out.alloc _)) (Lib.hid (A3.out.alloc _)) (by omega) (by omega) (by omega)).mono ?_
    rintro e w7 ⟨rfl, hb7⟩
    rw [show (decide (L1 = L1) && (decide (L2 = L2) && decide (L3 = L3))) = true from by simp]
    have hD7 := Lib.hid (belT (belA _ hD6.out) hb7)
    have F15 := Lib.hid (ScAt.below (by exact F15.out.alloc _) hb7)
    have F19 := Lib.hid (BoxAt.below (by exact F19.out.alloc _) hb7)
    have F21 := Lib.hid (F21.out.below hb7)
    have hv1 := Lib.hid ((hv1.out.below (below_alc _ _)).below hb7); have hv2 := Lib.hid ((hv2.out.below (below_alc _ _)).below hb7); have hv3 := Lib.hid ((hv3.out.below (below_alc _ _)).below hb7); have hv5 := Lib.hid ((hv5.out.below (below_alc _ _)).below hb7)
    have A6 := Lib.hid ((A6.out.alloc _).below hb7)
    clear hb7 A1 A2 A3
    obtain ⟨x0, x1⟩ := F19.out
    obtain ⟨z0, z1⟩ := F21.out
    go_wp2_with ((go_at_call 19; refine (num_any _ _ (by omega) (by omega)).mono ?_; rintro e w' ⟨rfl, rfl⟩))
    clear x0 x1 z0 z1
    refine (sameType_any u5 u6 i7 i8 j7 j8 T2 T2 _ (Lib.hid hv5.out.arg) A6 (by omega)).mono ?_
    rintro e w8 ⟨rfl, hb8⟩
    rw [decide_eq_true rfl]
    have hD8 := Lib.hid (belT hD7.out hb8)
    have F15 := Lib.hid (F15.out.below hb8)
    have F19 := Lib.hid (F19.out.below hb8)
    have hv1 := Lib.hid (hv1.out.below hb8); have hv2 := Lib.hid (hv2.out.below hb8); have hv3 := Lib.hid (hv3.out.below hb8); have hv5 := Lib.hid (hv5.out.below hb8)
    clear hb8 A6
    obtain ⟨x0, x1, x2, x3⟩ := F15.out
    go_wp2_with ((go_at_call 19; refine (num_any _ _ (by omega) (by omega)).mono ?_; rintro e w' ⟨rfl, rfl⟩))
    clear x0 x1 x2 x3
    refine (spoilScheme_any W2.heap.size _ _ _ L1 L2 L3 _ hD8.out.size hv1 hv2 hv3 hne.out (by omega) (by omega) (by omega)).mono ?_
    rintro e w9 ⟨rfl, hb9⟩
    have hin : ∀ k, ((Value.slice u1 i1 j1).ownBlock = some k ∨ (Value.slice u2 i2 j2).ownBlock = some k ∨ (Value.slice u3 i3 j3).ownBlock = some k) → W2.heap.size ≤ k ∧ k < w3.heap.size := by
      rintro k (h | h | h)
      · exact hs1.out k h
      · exact hs2.out k h
      · exact hs3.out k h
    have hD9 := Lib.hid (hD8.out.trans (hb9.below hD8.out.size fun k hk => (hin k hk).1))
    have F19 := Lib.hid (F19.out.bar hb9 (by intro hk; have := (hin _ hk).2; omega))
    have h5lt := Lib.hid (show ∀ k, (Value.slice u5 i7 j7).ownBlock = some k → w4.heap.size + 1 ≤ k from fun k hk => by have := (hs5.out k hk).1; simp at this; omega)
    have hv5 := Lib.hid (hb9.own hv5.out fun k hk hS => by have h1 := h5lt.out k hk; have h2 := (hin k hS).2; omega)
    have hW3 := hD3.out.size
    have hin := Lib.hid hin
    clear hb9
    rename_i hin0
    clear hin0
    obtain ⟨x0, x1⟩ := F19.out
    go_wp2_with fail
    clear x0 x1
    refine (spoilType_any _ _ T2 _ (Lib.hid hv5.out) (by omega)).mono ?_
    rintro e w10 ⟨rfl, hb10⟩
    have hD10 := Lib.hid (hD9.out.trans (hb10.below hD9.out.size fun k hk => by have := h5lt.out k hk; omega))
    clear hb10
    obtain ⟨x0, x1⟩ := F13.out.below hD10.out
    obtain ⟨z0, z1⟩ := F6.out.below hD10.out
    go_wp2_with fail
    clear x0 x1 z0 z1
    refine (sameType_any a13 p0 n13 n0 c13 c0 ts ts _ (Lib.hid (hT13.out.below hD10.out)) (Lib.hid (hT.out.below hD10.out)) (by omega)).mono ?_
    rintro e w11 ⟨rfl, hb11⟩
    rw [decide_eq_true rfl]
    have hD11 := Lib.hid (belT hD10.out hb11)
    clear hb11
    obtain ⟨x0, x1, x2, x3⟩ := F14.out.below hD11.out
    obtain ⟨z0, z1, z2, z3⟩ := F9.out.below hD11.out
    go_wp2_with fail
    clear x0 x1 x2 x3 z0 z1 z2 z3
    refine (sameScheme_any (some ⟨g1, 0, none⟩) n1' d1 (some ⟨g2, 0, none⟩) n2' d2 a14 n14 c14 q1 m1 e1 q2 m2 e2 q3 m3 e3 vs vs us us ss ss _ (Lib.hid (hk1'.out.below hD11.out)) (Lib.hid (hk2'.out.below hD11.out)) (Lib.hid (hk3'.out.below hD11.out)) (Lib.hid (hV.out.below hD11.out)) (Lib.hid (hU.out.below hD11.out)) (Lib.hid (hS.out.below hD11.out)) (by omega) (by omega) (by omega)).mono ?_
    rintro e w12 ⟨rfl, hb12⟩
    rw [show (decide (vs = vs) && (decide (us = us) && decide (ss = ss))) = true from by simp]
    have hD12 := Lib.hid (belT hD11.out hb12)
    clear hb12
    go_wp2_with fail
    refine (awake12_any _).mono ?_
    rintro e w13 ⟨rfl, hb13⟩
    have hD13 := Lib.hid (belT hD12.out hb13)
    clear hb13
    go_wp2_with fail
    go_ret
    exact ⟨rfl, belT hW.out hD13.out⟩
theorem own : ownKnob Try.prog.godebug = none := by kernel_rfl
theorem laidOut : laidOutB Try.prog = true := by kernel_rfl
set_option maxRecDepth 100000 in
theorem lifted (os : Os) (started : os.Started) (H : Type) (enc : TypeId × Value → H) :
    ReturnsInHanded {} Try.checked os 7 .any (Rows.schemesSpec.pre6 enc Try.prog Try.f7 Rows.schemesRow.domain false) (Rows.schemesSpec.post enc Try.prog Try.f7 false true false false) := by
  refine returnsInHanded_of_change_sized (C := Try.checked) own started (by kernel_rfl) Try.func7
    (ChangeSpec.witness6 (enc := enc) (C := Try.checked) false ⟨#[], #[.agg #[.slice none 0 0], .slice none 0 0, .slice none 0 0, .agg #[.slice none 0 0, .slice none 0 0, .slice none 0 0], .slice none 0 0, .slice none 0 0], []⟩ 8 (by kernel_rfl) (by kernel_rfl) (by kernel_rfl) (by kernel_rfl)) ?_
  intro W base args ds gs before hval0 hW hcnd hsz0 _
  have hval : ∀ (j : Nat) t v, Try.f7.params[j]? = some t → args[j]? = some v → Value.okWide Try.prog W .any base t v := hval0
  have hsz : (DataW.weightsEach Try.prog (Try.f7.params.toList ++ Rows.schemesSpec.plain.varTypes Try.prog) (ds ++ gs)).all (· ≤ reachBytes) = true := hsz0
  have hW' := hW
  obtain ⟨p, q, hA0, hV, rfl, hfz, hnd⟩ := hW
  have hA : DataW.TrodAll enc Try.prog W 0 (fun _ => true) true Try.f7.params.toList args.toList ds p := hA0
  rw [Try.params7] at hA hval hsz
  obtain ⟨v0, vs0, d0, ds0, p0, q0, hargs, rfl, rfl, h0, r0⟩ := trodAll_cons hA
  obtain ⟨v1, vs1, d1, ds1, p1, q1, rfl, rfl, rfl, h1, r1⟩ := trodAll_cons r0
  obtain ⟨v2, vs2, d2, ds2, p2, q2, rfl, rfl, rfl, h2, r2⟩ := trodAll_cons r1
  obtain ⟨v3, vs3, d3, ds3, p3, q3, rfl, rfl, rfl, h3, r3⟩ := trodAll_cons r2
  obtain ⟨v4, vs4, d4, ds4, p4, q4, rfl, rfl, rfl, h4, r4⟩ := trodAll_cons r3
  obtain ⟨v5, vs5, d5, ds5, p5, q5, rfl, rfl, rfl, h5, r5⟩ := trodAll_cons r4
  obtain ⟨rfl, rfl, rfl⟩ := trodAll_nil r5
  obtain rfl : args = #[v0, v1, v2, v3, v4, v5] := by cases args; simp_all
  obtain ⟨rfl, rfl⟩ := trodVars_none hV
  have k0 := h0
  have lt0 : ∀ x ∈ p0, x.block < W.heap.size := by obtain ⟨m, hm⟩ := k0; exact DataW.trod_lt m _ _ _ hm
  obtain ⟨cs0, rfl, fit0⟩ := open_struct Try.underlying25 (f := 6) (by kernel_rfl : flat Try.prog 6 25 = some [.sl 23]) (hval 0 25 v0 rfl rfl) h0 (sized_of hsz (j := 0) (t := 25) rfl rfl)
  obtain ⟨_, cr0, rfl, ⟨a0, n0, c0, fu0, y0, rfl, f0, g0⟩, fitb0⟩ := fit_i fit0
  obtain rfl := fit_nil fitb0
  obtain ⟨a1, n1, c1, rfl⟩ := okWide_slice Try.underlying54 (hval 1 54 v1 rfl rfl)
  have k1 := h1
  have lt1 : ∀ x ∈ p1, x.block < W.heap.size := by obtain ⟨m, hm⟩ := k1; exact DataW.trod_lt m _ _ _ hm
  have f1 : ∃ fuel y, DataW.trod enc Try.prog W 0 (fun _ => true) true fuel 54 [.slice a1 n1 c1] = some y ∧ ∀ x ∈ DataW.weights Try.prog 54 y.1, x ≤ reachBytes := by obtain ⟨fu, hf⟩ := h1; exact ⟨fu, _, by simpa [Value.cells] using hf, sized_of hsz (j := 1) (t := 54) rfl rfl⟩
  obtain ⟨a2, n2, c2, rfl⟩ := okWide_slice Try.underlying54 (hval 2 54 v2 rfl rfl)
  have k2 := h2
  have lt2 : ∀ x ∈ p2, x.block < W.heap.size := by obtain ⟨m, hm⟩ := k2; exact DataW.trod_lt m _ _ _ hm
  have f2 : ∃ fuel y, DataW.trod enc Try.prog W 0 (fun _ => true) true fuel 54 [.slice a2 n2 c2] = some y ∧ ∀ x ∈ DataW.weights Try.prog 54 y.1, x ≤ reachBytes := by obtain ⟨fu, hf⟩ := h2; exact ⟨fu, _, by simpa [Value.cells] using hf, sized_of hsz (j := 2) (t := 54) rfl rfl⟩
  have k3 := h3
  have lt3 : ∀ x ∈ p3, x.block < W.heap.size := by obtain ⟨m, hm⟩ := k3; exact DataW.trod_lt m _ _ _ hm
  obtain ⟨cs3, rfl, fit3⟩ := open_struct Try.underlying56 (f := 6) (by kernel_rfl : flat Try.prog 6 56 = some [.sl 54, .sl 54, .sl 23]) (hval 3 56 v3 rfl rfl) h3 (sized_of hsz (j := 3) (t := 56) rfl rfl)
  obtain ⟨_, cr3_0, rfl, ⟨a3_0, n3_0, c3_0, fu3_0, y3_0, rfl, f3_0, g3_0⟩, fit3_0⟩ := fit_i fit3
  obtain ⟨_, cr3_1, rfl, ⟨a3_1, n3_1, c3_1, fu3_1, y3_1, rfl, f3_1, g3_1⟩, fit3_1⟩ := fit_i fit3_0
  obtain ⟨_, cr3_2, rfl, ⟨a3_2, n3_2, c3_2, fu3_2, y3_2, rfl, f3_2, g3_2⟩, fit3_2⟩ := fit_i fit3_1
  obtain rfl := fit_nil fit3_2
  obtain ⟨a4, n4, c4, rfl⟩ := okWide_slice Try.underlying57 (hval 4 57 v4 rfl rfl)
  have k4 := h4
  have lt4 : ∀ x ∈ p4, x.block < W.heap.size := by obtain ⟨m, hm⟩ := k4; exact DataW.trod_lt m _ _ _ hm
  have f4 : ∃ fuel y, DataW.trod enc Try.prog W 0 (fun _ => true) true fuel 57 [.slice a4 n4 c4] = some y ∧ ∀ x ∈ DataW.weights Try.prog 57 y.1, x ≤ reachBytes := by obtain ⟨fu, hf⟩ := h4; exact ⟨fu, _, by simpa [Value.cells] using hf, sized_of hsz (j := 4) (t := 57) rfl rfl⟩
  obtain ⟨a5, n5, c5, rfl⟩ := okWide_slice Try.underlying58 (hval 5 58 v5 rfl rfl)
  have k5 := h5
  have lt5 : ∀ x ∈ p5, x.block < W.heap.size := by obtain ⟨m, hm⟩ := k5; exact DataW.trod_lt m _ _ _ hm
  have f5 : ∃ fuel y, DataW.trod enc Try.prog W 0 (fun _ => true) true fuel 58 [.slice a5 n5 c5] = some y ∧ ∀ x ∈ DataW.weights Try.prog 58 y.1, x ≤ reachBytes := by obtain ⟨fu, hf⟩ := h5; exact ⟨fu, _, by simpa [Value.cells] using hf, sized_of hsz (j := 5) (t := 58) rfl rfl⟩
  clear hA0 hval0
  refine (walk a0 n0 c0 a1 n1 c1 a2 n2 c2 a3_0 n3_0 c3_0 a3_1 n3_1 c3_1 a3_2 n3_2 c3_2 a4 n4 c4 a5 n5 c5 W ⟨_, _, f0, g0⟩ f1 f2 ⟨_, _, f3_0, g3_0⟩ ⟨_, _, f3_1, g3_1⟩ ⟨_, _, f3_2, g3_2⟩ f4 f5).mono fun e W' ⟨he, bel⟩ => ?_
  subst he
  exact ⟨_, rfl, _, _, _, [], _, [], hW', trodAll_mk1 (shut_bool Try.underlying4 _), (trodAll_cons_mk (Below.trod laidOut (by kernel_rfl) (of_decide_eq_true (by kernel_rfl)) k0 bel lt0) (trodAll_cons_mk (Below.trod laidOut (by kernel_rfl) (of_decide_eq_true (by kernel_rfl)) k1 bel lt1) (trodAll_cons_mk (Below.trod laidOut (by kernel_rfl) (of_decide_eq_true (by kernel_rfl)) k2 bel lt2) (trodAll_cons_mk (Below.trod laidOut (by kernel_rfl) (of_decide_eq_true (by kernel_rfl)) k3 bel lt3) (trodAll_cons_mk (Below.trod laidOut (by kernel_rfl) (of_decide_eq_true (by kernel_rfl)) k4 bel lt4) (trodAll_cons_mk (Below.trod laidOut (by kernel_rfl) (of_decide_eq_true (by kernel_rfl)) k5 bel lt5) trodAll_mk0)))))), rfl, bel.frame _, fun h => by cases h⟩
theorem over : Rows.schemesRow.holds Try.pinned (OpenSpec.ofChange Rows.schemesSpec) :=
  OpenClaim.holds_of_wide 7 Try.f7 rfl rfl rfl rfl rfl rfl rfl ⟨rfl, rfl, rfl, rfl, rfl⟩ rfl rfl rfl rfl rfl (by kernel_rfl) Try.func7 (by kernel_rfl)
    (of_decide_eq_true (by kernel_rfl)) (by unfold Func.isWrapper; first | (rw [if_pos (by decide +kernel)]; kernel_rfl) | (rw [if_neg (by decide +kernel)]; exact ⟨rfl, rfl⟩))
    (fun os started H enc _ => lifted os started H enc)
theorem proved : Rows.SchemesSaid := over
end Go.Proofs.Ytjhmdobmbajcgaa.schemes
