/- subst.types, tails. -/
import Derived.Test.YtfkdcconmecaoaaDoorSbC
import Derived.Test.YtfkdcconmecaoaaDoorShB
import Derived.Test.YtfkdcconmecaoaaDoorShC
namespace Go.Proofs.YtfkdcconmecaoaaDoor
open Go.RowKit Go.Maps
set_option linter.unusedVariables false
set_option linter.unusedSimpArgs false

/-- what the closures lean on: the map, the binds. -/
def CapW (w : World) (p1 p2 bm n : Nat) (a : Option Addr) (c : Nat) (xs : List Bn) (ir : Bool) : Prop :=
  w.cell? ⟨p1, 0, none⟩ = some (.map (some bm)) ∧ w.cell? ⟨p2, 0, none⟩ = some (.slice a xs.length c) ∧ p1 < w.heap.size ∧ p2 < w.heap.size ∧ bm < w.heap.size ∧ FsMap w bm n (fst xs ir) ∧ BnArg w a xs.length xs
theorem CapW.below {w w' : World} {p1 p2 bm n : Nat} {a : Option Addr} {c : Nat} {xs : List Bn} {ir : Bool} (h : CapW w p1 p2 bm n a c xs ir) (hb : Below w.heap.size w w') : CapW w' p1 p2 bm n a c xs ir := by
  obtain ⟨h1, h2, h3, h4, h5, h6, h7⟩ := h
  have := hb.size
  exact ⟨carry hb h3 h1, carry hb h4 h2, by omega, by omega, by omega, h6.below hb h5, h7.below hb⟩
theorem wf_var {v : Int} (h : 0 ≤ v ∧ v < 4096) : (Lit.int .i64 v).wf = true := by simp [Lit.wf, IntKind.min, IntKind.max, IntKind.signed, IntKind.bits]; omega
set_option maxRecDepth 100000 in
set_option maxHeartbeats 4000000 in
theorem types1_any (p1 p2 bm n : Nat) (a : Option Addr) (c : Nat) (xs : List Bn) (w : World) (h : Hid (CapW w p1 p2 bm n a c xs false)) (hv : bsV xs = true) (v : Int) (hr : 0 ≤ v ∧ v < 4096) :
    Calls Tryd.prog 60 #[.int .i64 v, .pointer (some ⟨p1, 0, none⟩), .pointer (some ⟨p2, 0, none⟩)] w
    fun e w' => (match sgB xs v with
      | none => e = .returned (.tuple #[.pointer none, .bool false])
      | some U => ∃ g, e = .returned (.tuple #[ptrS g, .bool true]) ∧ Shp w' U g) ∧ Below w.heap.size w w' := by
  obtain ⟨h1, h2, h3, h4, h5, ⟨D, hown, hmi⟩, h7⟩ := h.out
  obtain ⟨hh, hi⟩ := hmi.2 v
  have hkey : keyOf Tryd.prog 3 (.int .i64 v) = some (.int .i64 v) := keyOf_int_mk Tryd.underlying3 (wf_var hr)
  cases hf : fst xs false v with
  | none =>
    have hs : sgB xs v = none := by unfold sgB; rw [hf]; rfl
    have hhas : Maps.has D (.int .i64 v) = false := by rw [hh, hf]; rfl
    simp only [hs]
    clear hs hf hh hi hmi h7 h
    go_enter Tryd.func60, Tryd.ntmps60
    go_wp2_with (at_lookup; refine wpList_lookup_own_ok_int _ rfl _ _ 119 rfl 3 3 .i64 lawI Tryd.underlying119 Tryd.underlying3 (zeroI _) bm n D rfl hown _ _ rfl hkey ?_; intro c' hat hwc)
    go_ret2
    exact ⟨rfl, Below.refl _ _⟩
  | some i =>
    obtain ⟨hil, hir, hiv⟩ := fst_some hf
    have hs : sgB xs v = some (treeOf (xs.getD i bn0).ns) := by unfold sgB; rw [hf]; rfl
    have hhas : Maps.has D (.int .i64 v) = true := by rw [hh, hf]; rfl
    have hati := hi i hf
    have hok := bsV_at hv hil
    rw [ok_holds] at hok
    unfold holdsB at hok
    rw [hir] at hok
    simp only [Bool.and_eq_true, Bool.false_eq_true, if_false] at hok
    have hty := hok.2.2
    obtain ⟨_, h8⟩ := h7
    obtain ⟨b, off, rfl, h9, h10⟩ : ∃ b off, a = some ⟨b, off, none⟩ ∧ BnSl w b off xs ∧ b < w.heap.size := by
      rcases h8 with rfl | h8
      · simp at hil
      · exact h8
    obtain ⟨hB, hA, hn⟩ := h9 i hil
    simp only [hs]
    generalize xs.getD i bn0 = x at hB hA hn hty
    have hto := tyV_of hty
    obtain ⟨hA1, hA2⟩ := hA
    obtain ⟨b', off', hA3, hA4, hA5⟩ : ∃ b off, x.ad = some ⟨b, off, none⟩ ∧ TySl w b off x.ns ∧ b < w.heap.size := by
      rcases hA2 with h0 | h0
      · rw [h0] at hto; have := hto.2.2.1; have := (treeOf ([] : List Ty)).sz_pos; simp at *; omega
      · exact h0
    have kO := Lib.hid (shOf_tree b' off' x.c x.ns (treeOf x.ns) w (Lib.hid hA4) hA5 hty hto.1 hto.2.2.2.2)
    generalize treeOf x.ns = U at kO
    have e2 : w.cell? ⟨b, off + i * 8 + 2, none⟩ = some (.slice (some ⟨b', off', none⟩) x.ns.length x.c) := by rw [hB.2.2.1, hA3, hA1]
    have hi0 : (0 : Int) ≤ (i : Int) := by omega
    have hil' : (i : Int) < (xs.length : Int) := by omega
    clear hs hf hh hi hmi h h8 h9 hB hA1 hA2 hA3 hA4 hty hto hok hv hir hiv
    go_enter Tryd.func60, Tryd.ntmps60
    go_wp2_with (at_lookup; refine wpList_lookup_own_ok_int _ rfl _ _ 119 rfl 3 3 .i64 lawI Tryd.underlying119 Tryd.underlying3 (zeroI _) bm n D rfl hown _ _ rfl hkey ?_; intro c' hat hwc; obtain rfl : c' = i := (by rw [hati] at hat; injection hat with hat; injection hat with _ hat; exact hat.symm))
    refine kO.out.mono ?_
    rintro e w1 ⟨g, rfl, hs1, hb1⟩
    go_wp2_with fail
    go_ret2
    exact ⟨⟨g, rfl, hs1⟩, hb1⟩
set_option maxRecDepth 100000 in
set_option maxHeartbeats 4000000 in
theorem tails1_any (p1 p2 bm n : Nat) (a : Option Addr) (c : Nat) (xs : List Bn) (w : World) (h : Hid (CapW w p1 p2 bm n a c xs true)) (hv : bsV xs = true) (v : Int) (hr : 0 ≤ v ∧ v < 4096) :
    Calls Tryd.prog 61 #[.int .i64 v, .pointer (some ⟨p1, 0, none⟩), .pointer (some ⟨p2, 0, none⟩)] w
    fun e w' => (match rhB xs v with
      | none => e = .returned (.tuple #[.agg #[.int .i64 0, .int .i64 0, .int .i64 0, .int .i64 0, .int .i64 0], .bool false])
      | some q => e = .returned (.tuple #[.agg #[.int .i64 q.a, .int .i64 q.b, .int .i64 q.c, .int .i64 q.d, .int .i64 q.t], .bool true])) ∧ Below w.heap.size w w' := by
  obtain ⟨h1, h2, h3, h4, h5, ⟨D, hown, hmi⟩, h7⟩ := h.out
  obtain ⟨hh, hi⟩ := hmi.2 v
  have hkey : keyOf Tryd.prog 3 (.int .i64 v) = some (.int .i64 v) := keyOf_int_mk Tryd.underlying3 (wf_var hr)
  cases hf : fst xs true v with
  | none =>
    have hs : rhB xs v = none := by unfold rhB; rw [hf]; rfl
    have hhas : Maps.has D (.int .i64 v) = false := by rw [hh, hf]; rfl
    simp only [hs]
    clear hs hf hh hi hmi h7 h
    go_enter Tryd.func61, Tryd.ntmps61
    go_wp2_with (at_lookup; refine wpList_lookup_own_ok_int _ rfl _ _ 119 rfl 3 3 .i64 lawI Tryd.underlying119 Tryd.underlying3 (zeroI _) bm n D rfl (hown.alloc _) _ _ rfl hkey ?_; intro c' hat hwc)
    exact bodyPost_ret (v := .tuple #[.agg #[.int .i64 0, .int .i64 0, .int .i64 0, .int .i64 0, .int .i64 0], .bool false]) (by simp [results, Tryd.results61, go_sem, *]) rfl ⟨rfl, by (repeat' (first | with_reducible exact Below.refl _ _ | with_reducible assumption | with_reducible apply Below.setCell | with_reducible apply Below.alloc | with_reducible apply Below.drew | with_reducible apply below_drewN | with_reducible exact Nat.le_refl _ | (simp; done) | (simp; omega) | omega | exact Nat.le_refl _))⟩
  | some i =>
    obtain ⟨hil, hir, hiv⟩ := fst_some hf
    have hs : rhB xs v = some (xs.getD i bn0).r := by unfold rhB; rw [hf]; rfl
    have hhas : Maps.has D (.int .i64 v) = true := by rw [hh, hf]; rfl
    have hati := hi i hf
    obtain ⟨_, h8⟩ := h7
    obtain ⟨b, off, rfl, h9, h10⟩ : ∃ b off, a = some ⟨b, off, none⟩ ∧ BnSl w b off xs ∧ b < w.heap.size := by
      rcases h8 with rfl | h8
      · simp at hil
      · exact h8
    have hB := (h9 i hil).1
    simp only [hs]
    generalize xs.getD i bn0 = x at hB
    obtain ⟨e0, e1, e2, e3, e4, e5, e6, e7⟩ := hB
    have hi0 : (0 : Int) ≤ (i : Int) := by omega
    have hil' : (i : Int) < (xs.length : Int) := by omega
    clear hs hf hh hi hmi h h8 h9 hv hir hiv
    go_enter Tryd.func61, Tryd.ntmps61
    go_wp2_with (at_lookup; refine wpList_lookup_own_ok_int _ rfl _ _ 119 rfl 3 3 .i64 lawI Tryd.underlying119 Tryd.underlying3 (zeroI _) bm n D rfl (hown.alloc _) _ _ rfl hkey ?_; intro c' hat hwc; obtain rfl : c' = i := (by rw [hati] at hat; injection hat with hat; injection hat with _ hat; exact hat.symm))
    exact bodyPost_ret (v := .tuple #[.agg #[.int .i64 x.r.a, .int .i64 x.r.b, .int .i64 x.r.c, .int .i64 x.r.d, .int .i64 x.r.t], .bool true]) (by simp [results, Tryd.results61, go_sem]) rfl ⟨rfl, by (repeat' (first | with_reducible exact Below.refl _ _ | with_reducible assumption | with_reducible apply Below.setCell | with_reducible apply Below.alloc | with_reducible apply Below.drew | with_reducible apply below_drewN | with_reducible exact Nat.le_refl _ | (simp; done) | (simp; omega) | omega | exact Nat.le_refl _))⟩
end Go.Proofs.YtfkdcconmecaoaaDoor
