/- Matches holds for every two types. No condition but that the listed package variables hold what the program's text lays. -/
import Derived.Test.YtfkdcconmecaoaaDoorCards
import Derived.Test.YtfkdcconmecaoaaDoorTie
import Derived.Test.YtfkdcconmecaoaaDoorOpn
import Derived.Test.YtfkdcconmecaoaaDoorCrd
import Derived.WalkKit
import Derived.ProofKit
import Derived.Deep.DeepHandedRow
import Derived.Test.YtfkdcconmecaoaaDoorEqA
import Derived.Test.YtfkdcconmecaoaaDoorTyI
import Derived.Test.YtfkdcconmecaoaaDoorRqm
import Derived.Deep.RegionHeld3
namespace Go.Proofs.YtfkdcconmecaoaaDoor.matches
open Go.ChangeShapes Go.WideShapes Go.ChangeAt Go.RowKit
open Go.ChangeMaps (open_string shut_string)
set_option linter.unusedVariables false
set_option linter.unusedSimpArgs false

theorem tabs {W : World} (h : laidMetH Tryd.prog Rows.matchesRow.laid W) : Hid (TabW W) := by
  have hm : ("internal/strconv.uint64pow10", (Rows.laid_internal_strconv_uint64pow10 : DataW Unit)) ∈ Rows.matchesRow.laid := .tail _ (.tail _ (.head _))
  rw [show (Rows.laid_internal_strconv_uint64pow10 : DataW Unit) = Lib.tabData .u64 Lib.pow10Tab from by kernel_rfl] at hm
  exact Lib.hid (tabIs_of_mem gPow (t := 202) (e := 165) (n := 20) (by kernel_rfl) Tryd.underlying202 Tryd.underlying165 (by kernel_rfl) (by kernel_rfl) h hm)

theorem instE_02 (ts us : List Ty) : instE ts us = 0 ∨ instE ts us = 1100 := by unfold instE; split <;> simp
theorem eqE_02 (ts us : List Ty) : eqE ts us = 0 ∨ eqE ts us = 1100 := by unfold eqE; split <;> simp
/-- behind the law's first region: the two copies. -/
def Mid (w : World) (ts us : List Ty) (p5 p6 : Value) (W : World) : Prop :=
  ∃ g5 g6 a5 n5 c5 a6 n6 c6, p5 = .pointer (some ⟨g5, 0, none⟩) ∧ p6 = .pointer (some ⟨g6, 0, none⟩) ∧ BoxAt W g5 (.slice a5 n5 c5) ∧ BoxAt W g6 (.slice a6 n6 c6) ∧ TyArg W a5 n5 ts ∧ TyArg W a6 n6 us ∧ Below w.heap.size w W
def BxF (w : World) (g : Nat) : Prop := (g < w.heap.size ∧ w.cell? ⟨g, 0, none⟩ = some (.slice none 0 0)) ∧ w.frozen? ⟨g, 0, none⟩ = false
theorem BxF.below {w w' : World} {g : Nat} (h : BxF w g) (hb : Below w.heap.size w w') : BxF w' g := ⟨⟨by have := hb.size; have := h.1.1; omega, carry hb h.1.1 h.1.2⟩, by rw [hb.frozen (p := ⟨g, 0, none⟩) h.1.1]; exact h.2⟩
theorem BxF.drew {w : World} {g : Nat} (h : BxF w g) : BxF w.drew g := h.below ((Below.refl _ _).drew)
theorem bxf1 (w : World) : BxF (w.alloc (.cells #[.slice none 0 0] 24)) w.heap.size := ⟨⟨by simp, by rw [World.cell?_alloc_at _ _ _ _ rfl]; rfl⟩, by simp [go_sem]⟩
theorem bxf2a (w : World) : BxF ((w.alloc (.cells #[.slice none 0 0] 24)).alloc (.cells #[.slice none 0 0] 24)) w.heap.size := (bxf1 w).below (below_alc _ _)
theorem bxf2b (w : World) : BxF ((w.alloc (.cells #[.slice none 0 0] 24)).alloc (.cells #[.slice none 0 0] 24)) (w.heap.size + 1) := by
  have := bxf1 (w.alloc (.cells #[.slice none 0 0] 24))
  simpa using this
def TyZ (w : World) (a : Option Addr) (n : Nat) (l : List Ty) : Prop := n = l.length ∧ (l = [] ∨ ∃ b, a = some ⟨b, 0, none⟩ ∧ TySl w b 0 l ∧ b < w.heap.size)
theorem TyZ.arg {w : World} {a : Option Addr} {n : Nat} {l : List Ty} (h : TyZ w a n l) : TyArg w a n l := by
  obtain ⟨h1, h2 | ⟨b, h2, h3, h4⟩⟩ := h
  · exact ⟨h1, .inl h2⟩
  · exact ⟨h1, .inr ⟨b, 0, h2, h3, h4⟩⟩
theorem tyZ_own {B : Nat} {w : World} {a : Option Addr} {n c : Nat} {l : List Ty} (h : OwnT B w (.slice a n c) l) : TyZ w a n l := by
  rcases h.cases with ⟨h1, rfl⟩ | ⟨g, c, h1, _, h3, _, h5, _⟩
  · injection h1 with _ h1 _; subst h1; exact ⟨rfl, .inl rfl⟩
  · injection h1 with h0 h1 _; subst h0; subst h1; exact ⟨rfl, .inr ⟨g, rfl, h5, h3⟩⟩
theorem TyZ.below {w w' : World} {a : Option Addr} {n : Nat} {l : List Ty} (h : TyZ w a n l) (hb : Below w.heap.size w w') : TyZ w' a n l := by
  obtain ⟨h1, h2 | ⟨b, h2, h3, h4⟩⟩ := h
  · exact ⟨h1, .inl h2⟩
  · exact ⟨h1, .inr ⟨b, h2, h3.below hb h4, by have := hb.size; omega⟩⟩
theorem TyZ.put {w : World} {a : Option Addr} {n g : Nat} {l : List Ty} {x : Value} (h : TyZ w a n l) (hb : BxF w g) : TyZ (w.setCell ⟨g, 0, none⟩ x) a n l := by
  obtain ⟨h1, h2 | ⟨b, h2, h3, h4⟩⟩ := h
  · exact ⟨h1, .inl h2⟩
  · by_cases hl : l = []
    · exact ⟨h1, .inl hl⟩
    · have hp : 0 < l.length := List.length_pos_iff.2 hl
      have h0 := (h3 0 hp).1
      have hne : ¬ b = g := by
        rintro rfl
        have h5 := hb.1.2
        simp only [Nat.zero_mul, Nat.add_zero] at h0
        rw [h0] at h5
        cases h5
      exact ⟨h1, .inr ⟨b, h2, h3.bar (Bar.set (S := fun k => k = g) _ _ rfl) hne, by simpa using h4⟩⟩
theorem BxF.put {w : World} {g k : Nat} {x : Value} (h : BxF w g) (hn : g ≠ k) : BxF (w.setCell ⟨k, 0, none⟩ x) g := ⟨⟨by simpa using h.1.1, setO h.1.2 (by intro e; injection e with e _ _; exact hn e.symm)⟩, by rw [World.frozen?_setCell]; exact h.2⟩
theorem midC {w0 w : World} {ts us : List Ty} {g5 g6 : Nat} {a5 a6 : Option Addr} {n5 n6 c5 c6 : Nat} (hne : g5 ≠ g6) (h5 : BxF w g5) (h6 : BxF w g6) (t5 : TyZ w a5 n5 ts) (t6 : TyZ w a6 n6 us) (b5 : w0.heap.size ≤ g5) (b6 : w0.heap.size ≤ g6) (hb : Below w0.heap.size w0 w) : Mid w0 ts us (.pointer (some ⟨g5, 0, none⟩)) (.pointer (some ⟨g6, 0, none⟩)) ((w.setCell ⟨g5, 0, none⟩ (.slice a5 n5 c5)).setCell ⟨g6, 0, none⟩ (.slice a6 n6 c6)) := by
  have h6' : BxF (w.setCell ⟨g5, 0, none⟩ (.slice a5 n5 c5)) g6 := h6.put (Ne.symm hne)
  exact ⟨g5, g6, a5, n5, c5, a6, n6, c6, rfl, rfl, ⟨by simpa using h5.1.1, setO (setS h5.1.2) (by intro e; injection e with e _ _; exact hne e.symm)⟩, ⟨by simpa using h6.1.1, setS h6'.1.2⟩, ((t5.put h5).put h6').arg, ((t6.put h5).put h6').arg, (hb.setCell (by show w0.heap.size ≤ g5; omega) _).setCell (by show w0.heap.size ≤ g6; omega) _⟩
theorem midB1 {w0 w : World} {ts us : List Ty} {g5 : Nat} {a5 a6 : Option Addr} {n5 n6 c5 c6 : Nat} (h5 : BxF w g5) (t5 : TyZ w a5 n5 ts) (t6 : TyZ w a6 n6 us) (b5 : w0.heap.size ≤ g5) (hb : Below w0.heap.size w0 w) : Mid w0 ts us (.pointer (some ⟨g5, 0, none⟩)) (.pointer (some ⟨w.heap.size, 0, none⟩)) ((w.setCell ⟨g5, 0, none⟩ (.slice a5 n5 c5)).alloc (.cells #[.slice a6 n6 c6] 24)) :=
  ⟨g5, w.heap.size, a5, n5, c5, a6, n6, c6, rfl, rfl, BoxAt.alloc _ ⟨by simpa using h5.1.1, setS h5.1.2⟩, box_lit _ _ _ _ (by simp), ((t5.put h5).below (below_alc _ _)).arg, ((t6.put h5).below (below_alc _ _)).arg, belA _ (hb.setCell (by show w0.heap.size ≤ g5; omega) _)⟩
theorem midB2 {w0 w : World} {ts us : List Ty} {g6 : Nat} {a5 a6 : Option Addr} {n5 n6 c5 c6 : Nat} (h6 : BxF w g6) (t5 : TyZ w a5 n5 ts) (t6 : TyZ w a6 n6 us) (b6 : w0.heap.size ≤ g6) (hb : Below w0.heap.size w0 w) : Mid w0 ts us (.pointer (some ⟨w.heap.size, 0, none⟩)) (.pointer (some ⟨g6, 0, none⟩)) ((w.setCell ⟨g6, 0, none⟩ (.slice a6 n6 c6)).alloc (.cells #[.slice a5 n5 c5] 24)) :=
  ⟨w.heap.size, g6, a5, n5, c5, a6, n6, c6, rfl, rfl, box_lit _ _ _ _ (by simp), BoxAt.alloc _ ⟨by simpa using h6.1.1, setS h6.1.2⟩, ((t5.put h6).below (below_alc _ _)).arg, ((t6.put h6).below (below_alc _ _)).arg, belA _ (hb.setCell (by show w0.heap.size ≤ g6; omega) _)⟩
theorem midA1 {w0 w : World} {ts us : List Ty} {a5 a6 : Option Addr} {n5 n6 c5 c6 : Nat} (t5 : TyZ w a5 n5 ts) (t6 : TyZ w a6 n6 us) (hb : Below w0.heap.size w0 w) : Mid w0 ts us (.pointer (some ⟨w.heap.size, 0, none⟩)) (.pointer (some ⟨w.heap.size + 1, 0, none⟩)) ((w.alloc (.cells #[.slice a5 n5 c5] 24)).alloc (.cells #[.slice a6 n6 c6] 24)) :=
  ⟨_, _, a5, n5, c5, a6, n6, c6, rfl, rfl, BoxAt.alloc _ (box_lit _ _ _ _ rfl), box_lit _ _ _ _ (by simp), ((t5.below (below_alc _ _)).below (below_alc _ _)).arg, ((t6.below (below_alc _ _)).below (below_alc _ _)).arg, belA _ (belA _ hb)⟩
theorem midA2 {w0 w : World} {ts us : List Ty} {a5 a6 : Option Addr} {n5 n6 c5 c6 : Nat} (t5 : TyZ w a5 n5 ts) (t6 : TyZ w a6 n6 us) (hb : Below w0.heap.size w0 w) : Mid w0 ts us (.pointer (some ⟨w.heap.size + 1, 0, none⟩)) (.pointer (some ⟨w.heap.size, 0, none⟩)) ((w.alloc (.cells #[.slice a6 n6 c6] 24)).alloc (.cells #[.slice a5 n5 c5] 24)) :=
  ⟨_, _, a5, n5, c5, a6, n6, c6, rfl, rfl, box_lit _ _ _ _ (by simp), BoxAt.alloc _ (box_lit _ _ _ _ rfl), ((t5.below (below_alc _ _)).below (below_alc _ _)).arg, ((t6.below (below_alc _ _)).below (below_alc _ _)).arg, belA _ (belA _ hb)⟩
theorem st_go {g1 g2 : Nat} {W0 W W' : World} {v1 v2 : Value} (h1 : g1 < W0.heap.size) (h2 : g2 < W0.heap.size) (H : W.cell? ⟨g1, 0, none⟩ = some v1 ∧ W.cell? ⟨g2, 0, none⟩ = some v2 ∧ Below W0.heap.size W0 W) (hb : Below W.heap.size W W') : W'.cell? ⟨g1, 0, none⟩ = some v1 ∧ W'.cell? ⟨g2, 0, none⟩ = some v2 ∧ Below W0.heap.size W0 W' :=
  ⟨carry hb (by have := H.2.2.size; omega) H.1, carry hb (by have := H.2.2.size; omega) H.2.1, belT H.2.2 hb⟩
theorem st_set {g1 g2 k o : Nat} {W0 W : World} {v1 v2 x : Value} (h1 : g1 < W0.heap.size) (h2 : g2 < W0.heap.size) (hk : W0.heap.size ≤ k) (H : W.cell? ⟨g1, 0, none⟩ = some v1 ∧ W.cell? ⟨g2, 0, none⟩ = some v2 ∧ Below W0.heap.size W0 W) : (W.setCell ⟨k, o, none⟩ x).cell? ⟨g1, 0, none⟩ = some v1 ∧ (W.setCell ⟨k, o, none⟩ x).cell? ⟨g2, 0, none⟩ = some v2 ∧ Below W0.heap.size W0 (W.setCell ⟨k, o, none⟩ x) :=
  ⟨setO H.1 (by intro e; injection e with e _ _; omega), setO H.2.1 (by intro e; injection e with e _ _; omega), H.2.2.setCell (by show W0.heap.size ≤ k; omega) _⟩
set_option maxRecDepth 100000 in
set_option maxHeartbeats 8000000 in
theorem walk {H : Type} {enc : TypeId × Value → H} (p0 : Option Addr) (n0 c0 : Nat) (p1 : Option Addr) (n1 c1 : Nat) (w : World)
    (f0 : ∃ fuel y, DataW.trod enc Tryd.prog w 0 (fun _ => true) true fuel 22 [.slice p0 n0 c0] = some y ∧ ∀ x ∈ DataW.weights Tryd.prog 22 y.1, x ≤ reachBytes)
    (f1 : ∃ fuel y, DataW.trod enc Tryd.prog w 0 (fun _ => true) true fuel 22 [.slice p1 n1 c1] = some y ∧ ∀ x ∈ DataW.weights Tryd.prog 22 y.1, x ≤ reachBytes) (hT : Hid (TabW w)) :
    Calls Tryd.prog 8 #[.agg #[.slice p0 n0 c0], .agg #[.slice p1 n1 c1]] w fun e w' => e = .returned (.bool true) ∧ Below w.heap.size w w' := by
  obtain ⟨_, _, t, t'⟩ := f0
  obtain ⟨hl0, ts, hA⟩ := ty_open t t'
  clear t t'
  obtain ⟨_, _, t, t'⟩ := f1
  obtain ⟨hl1, us, hU⟩ := ty_open t t'
  clear t t'
  have hA := Lib.hid hA
  have hU := Lib.hid hU
  have hW0 := Lib.hid (below_alc2 w (.cells #[.slice p0 n0 c0] 24) (.cells #[.slice p1 n1 c1] 24))
  have hX := Lib.hid (show BoxAt ((w.alloc (.cells #[.slice p0 n0 c0] 24)).alloc (.cells #[.slice p1 n1 c1] 24)) w.heap.size (.slice p0 n0 c0) from BoxAt.alloc _ (box_lit _ _ _ _ rfl))
  have hY := Lib.hid (show BoxAt ((w.alloc (.cells #[.slice p0 n0 c0] 24)).alloc (.cells #[.slice p1 n1 c1] 24)) (w.heap.size + 1) (.slice p1 n1 c1) from box_lit _ _ _ _ (by simp))
  have hA := Lib.hid (hA.out.below hW0.out)
  have hU := Lib.hid (hU.out.below hW0.out)
  go_enter Tryd.func8, Tryd.ntmps8
  go_upto_region 1 with fail
  generalize hWe : ((w.alloc (.cells #[.slice p0 n0 c0] 24)).alloc (.cells #[.slice p1 n1 c1] 24)) = W0 at hW0 hX hY hA hU ⊢
  clear hWe
  go_cut [5, 6] (fun p5 p6 W => Mid W0 ts us p5 p6 W)
  case first =>
    have hg1 := Lib.hid hX.out.1
    have hg2 := Lib.hid hY.out.1
    have hst := Lib.hid (show W0.cell? ⟨w.heap.size, 0, none⟩ = some (.slice p0 n0 c0) ∧ W0.cell? ⟨w.heap.size + 1, 0, none⟩ = some (.slice p1 n1 c1) ∧ Below W0.heap.size W0 W0 from ⟨hX.out.2, hY.out.2, Below.refl _ _⟩)
    have kA := Lib.hid fun (W : World) (hb : Below W0.heap.size W0 W) => copyType_any p0 n0 c0 ts W (Lib.hid (hA.out.below hb)) (by omega)
    have kU := Lib.hid fun (W : World) (hb : Below W0.heap.size W0 W) => copyType_any p1 n1 c1 us W (Lib.hid (hU.out.below hb)) (by omega)
    go_region_held3 (fun W => W.cell? ⟨w.heap.size, 0, none⟩ = some (.slice p0 n0 c0) ∧ W.cell? ⟨w.heap.size + 1, 0, none⟩ = some (.slice p1 n1 c1) ∧ Below W0.heap.size W0 W)
      (repeat (first | with_reducible exact hS9.out | with_reducible exact hS8.out | with_reducible exact hst.out | with_reducible refine st_go hg1.out hg2.out ?_ (below_alc _ _) | with_reducible refine st_go hg1.out hg2.out ?_ ((Below.refl _ _).drew) | with_reducible refine st_set hg1.out hg2.out (by omega) ?_))
      ((first
        | (go_at_call 19; have hh := hS8; clear hh; refine (kU.out _ (by first | exact (by assumption : _ ∧ _ ∧ _).2.2 | skip)).mono ?_; rintro e w9 ⟨v9, rfl, hv9, hb9⟩; have hS9 := Lib.hid (st_go hg1.out hg2.out (by assumption) hb9); have hs9 := hS9.out.2.2.size; have hc9 := belT (show Below w8.heap.size w8 _ from by repeat (first | with_reducible exact Below.refl _ _ | with_reducible refine Below.drew ?_ | with_reducible refine belA _ ?_)) hb9; obtain ⟨a9, n9, c9, rfl⟩ := ownT_sl hv9; (try (have r1 : BxF w9 w8.heap.size := BxF.below (by first | with_reducible exact bxf1 w8 | with_reducible exact BxF.drew (bxf1 w8) | with_reducible exact bxf2a w8 | with_reducible exact BxF.drew (bxf2a w8)) hb9; have r1' := r1; obtain ⟨⟨r10, r11⟩, r12⟩ := r1')); (try (have r2 : BxF w9 (w8.heap.size + 1) := BxF.below (by first | with_reducible exact bxf2b w8 | with_reducible exact BxF.drew (bxf2b w8)) hb9; have r2' := r2; obtain ⟨⟨r20, r21⟩, r22⟩ := r2')); (try (have q4 := BxF.below q1 hc9; have q4' := q4; obtain ⟨⟨q40, q41⟩, q42⟩ := q4')); (try (have q5 := BxF.below q2 hc9; have q5' := q5; obtain ⟨⟨q50, q51⟩, q52⟩ := q5')); (try (have ne1 : W0.heap.size ≠ w8.heap.size := Nat.ne_of_lt q1.1.1; have ne2 : w8.heap.size ≠ W0.heap.size := Ne.symm ne1)))
        | (go_at_call 19; refine (kA.out _ (by first | exact (by assumption : _ ∧ _ ∧ _).2.2 | skip)).mono ?_; rintro e w8 ⟨v8, rfl, hv8, hb8⟩; have hS8 := Lib.hid (st_go hg1.out hg2.out (by assumption) hb8); have hs8 := hS8.out.2.2.size; obtain ⟨a8, n8, c8, rfl⟩ := ownT_sl hv8; (try (have q1 : BxF w8 W0.heap.size := BxF.below (by first | with_reducible exact bxf1 W0 | with_reducible exact BxF.drew (bxf1 W0) | with_reducible exact bxf2a W0 | with_reducible exact BxF.drew (bxf2a W0)) hb8)); (try (have q2 : BxF w8 (W0.heap.size + 1) := BxF.below (by first | with_reducible exact bxf2b W0 | with_reducible exact BxF.drew (bxf2b W0)) hb8)))))
    all_goals (go_wp2_with fail; go_meet)
    all_goals (have t5 := (tyZ_own hv8).below hc9; have t6 := tyZ_own hv9; have hbb := hS9.out.2.2)
    all_goals first
      | with_reducible exact midA1 t5 t6 hbb
      | with_reducible exact midA2 t5 t6 hbb
      | with_reducible exact midB1 r1 t5 t6 (by omega) hbb
      | with_reducible exact midB2 r1 t5 t6 (by omega) hbb
      | with_reducible exact midB1 q4 t5 t6 (by omega) hbb
      | with_reducible exact midB2 q4 t5 t6 (by omega) hbb
      | with_reducible exact midC (by omega) r1 r2 t5 t6 (by omega) (by omega) hbb
      | with_reducible exact midC (by omega) r2 r1 t5 t6 (by omega) (by omega) hbb
      | with_reducible exact midC (by omega) q4 q5 t5 t6 (by omega) (by omega) hbb
      | with_reducible exact midC (by omega) q5 q4 t5 t6 (by omega) (by omega) hbb
      | with_reducible exact midC (by omega) q4 r1 t5 t6 (by omega) (by omega) hbb
      | with_reducible exact midC (by omega) r1 q4 t5 t6 (by omega) (by omega) hbb
  case rest =>
    rename World => W1
    obtain ⟨g5, g6, a5, n5, c5, a6, n6, c6, rfl, rfl, h5, h6, hC, hD, hB1⟩ := hcut
    have hW1 := Lib.hid (belT hW0.out hB1)
    have hX := Lib.hid (hX.out.below hB1)
    have hY := Lib.hid (hY.out.below hB1)
    have hA := Lib.hid (hA.out.below hB1)
    have hU := Lib.hid (hU.out.below hB1)
    have h5 := Lib.hid h5; have h6 := Lib.hid h6; have hC := Lib.hid hC; have hD := Lib.hid hD
    have hT1 := Lib.hid (tab_keep hT.out hW1.out (Nat.le_refl _))
    obtain rfl : n5 = n0 := by have h1 := hC.out.1; have h2 := hA.out.1; omega
    obtain rfl : n6 = n1 := by have h1 := hD.out.1; have h2 := hU.out.1; omega
    have hE1 := instE_02 ts us
    have hE2 := eqE_02 ts us
    have kI := Lib.hid fun (W : World) (hb : Below W1.heap.size W1 W) => instance_any a5 a6 n5 n6 c5 c6 ts us W (Lib.hid (hC.out.below hb)) (Lib.hid (hD.out.below hb)) (by omega) (by omega)
    have kJ := Lib.hid fun (W : World) (hb : Below W1.heap.size W1 W) => rinstance_any p0 p1 n5 n6 c0 c1 ts us W (Lib.hid (hA.out.below hb)) (Lib.hid (hU.out.below hb)) (by omega) (by omega)
    have kE := Lib.hid fun (W : World) (hb : Below W1.heap.size W1 W) => equal_any a5 a6 n5 n6 c5 c6 ts us W (Lib.hid (hC.out.below hb)) (Lib.hid (hD.out.below hb)) (by omega) (by omega) (Lib.hid (tab_keep hT1.out hb (Nat.le_refl _)))
    have kF := Lib.hid fun (W : World) (hb : Below W1.heap.size W1 W) => requal_any p0 p1 n5 n6 c0 c1 ts us W (Lib.hid (hA.out.below hb)) (Lib.hid (hU.out.below hb)) (by omega) (by omega)
    have k1 := Lib.hid fun (W : World) (hb : Below W1.heap.size W1 W) => sameType_any a5 p0 n5 n5 c5 c0 ts ts W (Lib.hid (hC.out.below hb)) (Lib.hid (hA.out.below hb)) (by omega)
    have k2 := Lib.hid fun (W : World) (hb : Below W1.heap.size W1 W) => sameType_any a6 p1 n6 n6 c6 c1 us us W (Lib.hid (hD.out.below hb)) (Lib.hid (hU.out.below hb)) (by omega)
    rw [decide_eq_true rfl] at k1
    rw [decide_eq_true rfl] at k2
    generalize instV ts us = V1 at kI kJ
    generalize eqV ts us = V2 at kE kF
    generalize instE ts us = E1 at kI kJ hE1
    generalize eqE ts us = E2 at kE kF hE2
    have kn1 := Lib.hid fun (W : World) => num_any E1 W (by omega) (by omega)
    have kn2 := Lib.hid fun (W : World) => num_any E2 W (by omega) (by omega)
    rename_i z1 z2 z3 z4
    clear z1 z2 z3 z4 hE1 hE2 hl0 hl1 hB1
    obtain ⟨x0, x1⟩ := h5.out
    obtain ⟨y0, y1⟩ := h6.out
    go_wp2_with fail
    clear x0 x1 y0 y1
    refine (kI.out _ (Below.refl _ _)).mono ?_
    rintro e w2 ⟨rfl, hb⟩
    have hD2 := Lib.hid hb
    clear hb
    obtain ⟨x0, x1⟩ := hX.out.below hD2.out
    obtain ⟨y0, y1⟩ := hY.out.below hD2.out
    go_wp2_with fail
    clear x0 x1 y0 y1
    refine (kJ.out _ hD2.out).mono ?_
    rintro e w3 ⟨rfl, hb⟩
    have hD3 := Lib.hid (belT hD2.out hb)
    clear hb
    obtain ⟨x0, x1⟩ := h5.out.below hD3.out
    obtain ⟨y0, y1⟩ := h6.out.below hD3.out
    go_wp2_with fail
    clear x0 x1 y0 y1
    refine (kE.out _ hD3.out).mono ?_
    rintro e w4 ⟨rfl, hb⟩
    have hD4 := Lib.hid (belT hD3.out hb)
    clear hb
    obtain ⟨x0, x1⟩ := hX.out.below hD4.out
    obtain ⟨y0, y1⟩ := hY.out.below hD4.out
    go_wp2_with fail
    clear x0 x1 y0 y1
    refine (kF.out _ hD4.out).mono ?_
    rintro e w5 ⟨rfl, hb⟩
    have hD5 := Lib.hid (belT hD4.out hb)
    clear hb
    obtain ⟨x0, x1⟩ := hX.out.below hD5.out
    obtain ⟨y0, y1⟩ := h5.out.below hD5.out
    cases V1 <;> cases V2
    all_goals
      go_wp2_with ((go_at_call 11; (first | with_reducible refine (kn1.out _).mono ?_ | with_reducible refine (kn2.out _).mono ?_); rintro e w' ⟨rfl, rfl⟩))
      clear x0 x1 y0 y1
      refine (k1.out _ hD5.out).mono ?_
      rintro e w6 ⟨rfl, hb⟩
      have hD6 := Lib.hid (belT hD5.out hb)
      clear hb
      obtain ⟨x0, x1⟩ := hY.out.below hD6.out
      obtain ⟨y0, y1⟩ := h6.out.below hD6.out
      go_wp2_with fail
      clear x0 x1 y0 y1
      refine (k2.out _ hD6.out).mono ?_
      rintro e w7 ⟨rfl, hb⟩
      have hD7 := Lib.hid (belT hD6.out hb)
      clear hb
      go_wp2_with fail
      refine (awake11_any _ (Lib.hid (tab_keep hT1.out hD7.out (Nat.le_refl _)))).mono ?_
      rintro e w8 ⟨rfl, hb⟩
      have hD8 := Lib.hid (belT hD7.out hb)
      clear hb
      go_wp2_with fail
      go_ret
      exact ⟨rfl, belT hW1.out hD8.out⟩
theorem own : ownKnob Tryd.prog.godebug = none := by kernel_rfl
theorem laidOut : laidOutB Tryd.prog = true := by kernel_rfl
set_option maxRecDepth 100000 in
theorem contract (H : Type) (enc : TypeId × Value → H) (W : World) (base : Nat) (args : Array Value) (ds gs : List (DataW H)) (before : List MemPlace)
    (hval0 : ∀ (j : Nat) t v, Tryd.f8.params[j]? = some t → args[j]? = some v → Value.okWide Tryd.prog W .any base t v)
    (hW : DataW.Whole enc Tryd.prog Tryd.f8.params.toList Rows.matchesSpec.vars false W args.toList ds gs before)
    (hsz0 : (DataW.weightsEach Tryd.prog (Tryd.f8.params.toList ++ Rows.matchesSpec.plain.varTypes Tryd.prog) (ds ++ gs)).all (· ≤ reachBytes) = true)
    (hL : laidMetH Tryd.prog Rows.matchesRow.laid W)
    : Calls Tryd.prog 8 args W fun e W' => ∃ v, e = .returned v ∧ Rows.matchesSpec.post enc Tryd.prog Tryd.f8 false true false false W args v W' := by
  have hval : ∀ (j : Nat) t v, Tryd.f8.params[j]? = some t → args[j]? = some v → Value.okWide Tryd.prog W .any base t v := hval0
  have hsz : (DataW.weightsEach Tryd.prog (Tryd.f8.params.toList ++ Rows.matchesSpec.plain.varTypes Tryd.prog) (ds ++ gs)).all (· ≤ reachBytes) = true := hsz0
  have hW' := hW
  obtain ⟨p, q, hA0, hV, rfl, hfz, hnd⟩ := hW
  have hA : DataW.TrodAll enc Tryd.prog W 0 (fun _ => true) true Tryd.f8.params.toList args.toList ds p := hA0
  rw [Tryd.params8] at hA hval hsz
  obtain ⟨v0, vs0, d0, ds0, p0, q0, hargs, rfl, rfl, h0, r0⟩ := trodAll_cons hA
  obtain ⟨v1, vs1, d1, ds1, p1, q1, rfl, rfl, rfl, h1, r1⟩ := trodAll_cons r0
  obtain ⟨rfl, rfl, rfl⟩ := trodAll_nil r1
  obtain rfl : args = #[v0, v1] := by cases args; simp_all
  obtain ⟨rfl, rfl⟩ := trodVars_none hV
  have k0 := h0
  have lt0 : ∀ x ∈ p0, x.block < W.heap.size := by obtain ⟨m, hm⟩ := k0; exact DataW.trod_lt m _ _ _ hm
  obtain ⟨cs0_0, rfl, fit0_0⟩ := open_struct Tryd.underlying24 (f := 6) (by kernel_rfl : flat Tryd.prog 6 24 = some [.sl 22]) (hval 0 24 v0 rfl rfl) h0 (sized_of hsz (j := 0) (t := 24) rfl rfl)
  obtain ⟨_, cs0_1, rfl, ⟨a0_0, n0_0, c0_0, fu0_0, y0_0, rfl, f0_0, g0_0⟩, fit0_1⟩ := fit_i fit0_0
  obtain rfl := fit_nil fit0_1
  have k1 := h1
  have lt1 : ∀ x ∈ p1, x.block < W.heap.size := by obtain ⟨m, hm⟩ := k1; exact DataW.trod_lt m _ _ _ hm
  obtain ⟨cs1_0, rfl, fit1_0⟩ := open_struct Tryd.underlying24 (f := 6) (by kernel_rfl : flat Tryd.prog 6 24 = some [.sl 22]) (hval 1 24 v1 rfl rfl) h1 (sized_of hsz (j := 1) (t := 24) rfl rfl)
  obtain ⟨_, cs1_1, rfl, ⟨a1_0, n1_0, c1_0, fu1_0, y1_0, rfl, f1_0, g1_0⟩, fit1_1⟩ := fit_i fit1_0
  obtain rfl := fit_nil fit1_1
  clear hA0 hval0
  refine (walk a0_0 n0_0 c0_0 a1_0 n1_0 c1_0 W ⟨_, _, f0_0, g0_0⟩ ⟨_, _, f1_0, g1_0⟩ (tabs hL)).mono fun e W' ⟨he, bel⟩ => ?_
  subst he
  exact ⟨_, rfl, _, _, _, [], _, [], hW', trodAll_mk1 (shut_bool Tryd.underlying4 _), (trodAll_cons_mk (Below.trod laidOut (by kernel_rfl) (of_decide_eq_true (by kernel_rfl)) k0 bel lt0) (trodAll_cons_mk (Below.trod laidOut (by kernel_rfl) (of_decide_eq_true (by kernel_rfl)) k1 bel lt1) trodAll_mk0)), rfl, bel.frame _, fun h => by cases h⟩
noncomputable def laidWorld (os : Os) : World := { World.holding Tryd.prog os ⟨#[], #[], []⟩ with heap := layAll Tryd.prog Rows.matchesRow.laid (World.holding Tryd.prog os ⟨#[], #[], []⟩).heap }
theorem laid_met (os : Os) : laidMet Tryd.prog Rows.matchesRow.laid ((laidWorld os).forCall (fun _ _ => 0) ⟨#[], #[.agg #[.slice none 0 0], .agg #[.slice none 0 0]], []⟩).memory := laidMet_of_run' 8 (by kernel_rfl) (by kernel_rfl)
theorem reads (os : Os) {H : Type} (enc : TypeId × Value → H) : ∃ places, DataW.whole enc Tryd.prog ((laidWorld os).forCall (fun _ _ => 0) ⟨#[], #[.agg #[.slice none 0 0], .agg #[.slice none 0 0]], []⟩).memory Tryd.f8.params.toList Rows.matchesSpec.vars false #[(.agg #[.slice none 0 0] : Value), (.agg #[.slice none 0 0] : Value)].toList 8 = some ([.agg [.nil], .agg [.nil]], [], places) := ⟨[], by kernel_rfl⟩
set_option maxRecDepth 100000 in
theorem lifted (os : Os) (started : os.Started) (H : Type) (enc : TypeId × Value → H) (F : Stop.Interp) :
    ReturnsInHanded {} Tryd.checked os 8 .any ((OpenSpec.ofChange Rows.matchesSpec).preRow enc Tryd.prog Tryd.f8 Rows.matchesRow.domain false Rows.matchesRow.laid) (((OpenSpec.ofChange Rows.matchesSpec).at F).post enc Tryd.prog Tryd.f8 false true false false) := by
  obtain ⟨places, hx⟩ := reads os enc
  refine returnsInHanded_of_row (C := Tryd.checked) (s := (OpenSpec.ofChange Rows.matchesSpec)) own started (by kernel_rfl) Tryd.func8
    (witness_row_at (enc := enc) (C := Tryd.checked) false (laidWorld os) #[.agg #[.slice none 0 0], .agg #[.slice none 0 0]] rfl (by kernel_rfl) (by kernel_rfl) (by kernel_rfl)
      (OpenSpec.preRow_of_cond 8 hx (by kernel_rfl) (fun k hk => by cases hk) (by kernel_rfl) (laid_met os))) ?_
  intro W base args ds gs before hval hW _ hcnd hsz hL _ _
  exact contract H enc W base args ds gs before hval hW hsz  hL
theorem said : Rows.MatchesSaid :=
  OpenClaim.holds_of_cond 8 Tryd.f8 rfl rfl rfl rfl rfl rfl rfl ⟨rfl, rfl, rfl, rfl, rfl⟩ rfl rfl rfl rfl rfl (by kernel_rfl) Tryd.func8 (by kernel_rfl)
    (of_decide_eq_true (by kernel_rfl)) (by unfold Func.isWrapper; first | (rw [if_pos (by decide +kernel)]; kernel_rfl) | (rw [if_neg (by decide +kernel)]; exact ⟨rfl, rfl⟩))
    (fun os started H enc _ F => by rw [OpenClaim.pre_eq_preRow]; exact lifted os started H enc F)
theorem plain (f : FuncId) (fn : Func) (hf : Tryd.pinned.checked.prog.funcNamed "trammel/trammellaw11.Matches" = some f) (hfn : Tryd.pinned.checked.prog.funcs[f]? = some fn) :
    true = Tryd.pinned.checked.prog.looks [] ∧ ∀ (j : Nat) t, fn.params[j]? = some t → Tryd.pinned.checked.prog.wantsStandIn t = false := by
  obtain rfl : f = 8 := Option.some.inj ((show Tryd.prog.funcNamed "trammel/trammellaw11.Matches" = some 8 by kernel_rfl).symm.trans hf) |>.symm
  obtain rfl : fn = Tryd.f8 := (Option.some.inj (Tryd.func8.symm.trans hfn)).symm
  refine ⟨by kernel_rfl, fun j t ht => ?_⟩
  rw [Tryd.params8] at ht
  have hm := Array.mem_of_getElem? ht
  have hm2 : t ∈ ([24] : List Nat) := by simpa using hm
  simp only [List.mem_cons, List.not_mem_nil, or_false] at hm2
  subst hm2; exact (show Tryd.prog.wantsStandIn 24 = false by kernel_rfl)
theorem proved : Rows.MatchesCardSaid :=
  Claim7.holds_tied_plain_at .later [] _ _ _ _ said (fun _ h => by cases h) (by kernel_rfl) (fun _ h => by cases h) matches_row_tie rfl ⟨rfl, rfl⟩ (by kernel_rfl) rfl plain (by kernel_rfl)
end Go.Proofs.YtfkdcconmecaoaaDoor.matches
