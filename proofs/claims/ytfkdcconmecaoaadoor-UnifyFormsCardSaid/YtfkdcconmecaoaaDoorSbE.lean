/- subst.types, tails. -/
import Derived.Test.YtfkdcconmecaoaaDoorSbA
import Derived.Test.YtfkdcconmecaoaaDoorShB
import Derived.Test.YtfkdcconmecaoaaDoorShC
import Derived.Test.YtfkdcconmecaoaaDoorShD
import Derived.Test.YtfkdcconmecaoaaDoorShE
/- subst.types, tails. -/
namespace Go.Proofs.YtfkdcconmecaoaaDoor
open Go.RowKit Go.Maps
set_option linter.unusedVariables false
set_option linter.unusedSimpArgs false

/-- what the closures lean on: the map, the binds. -/
def CapW (w : World) (p1 p2 bm n : Nat) (a : Option Addr) (c : Nat) (xs : List Bn) (ir : Bool) : Prop :=
  w.cell? ⟨p1, 0, none⟩ = some (.map (some bm)) ∧ w.cell? ⟨p2, 0, none⟩ = some (.slice a xs.length c) ∧ p1 < w.heap.size ∧ p2 < w.heap.size ∧ bm < w.heap.size ∧ FsMap w bm n (fst xs ir) ∧ BnArg w a xs.length xs
theorem CapW.below {w w' : World} {p1 p2 bm n : Nat} {a : Option Addr} {c : Nat} {xs : List Bn} {ir : Bool} (h : CapW w p1 p2 bm n a c xs ir) (hb : Below w.heap.size w w') : CapW w' p1 p2 bm n a c xs ir := by
  obtain ⟨h1, h2, h3, h4, h5, h6, h7⟩ := h
  have := hb.size
  exact ⟨carry hb h3 h1, carry hb h4 h2, by omega, by omega, by omega, h6.below hb h5, h7.below hb⟩
theorem wf_var {v : Int} (h : 0 ≤ v ∧ v < 4096) : (Lit.int .i64 v).wf = true := by simp [Lit.wf, IntKind.min, IntKind.max, IntKind.signed, IntKind.bits]; omega
set_option maxRecDepth 100000 in
set_option maxHeartbeats 4000000 in
theorem types1_any (p1 p2 bm n : Nat) (a : Option Addr) (c : Nat) (xs : List Bn) (w : World) (h : Hid (CapW w p1 p2 bm n a c xs false)) (hv : bsV xs = true) (v : Int) (hr : 0 ≤ v ∧ v < 4096) :
    Calls Tryd.prog 60 #[.int .i64 v, .pointer (some ⟨p1, 0, none⟩), .pointer (some ⟨p2, 0, none⟩)] w
    fun e w' => (match sgB xs v with
      | none => e = .returned (.tuple #[.pointer none, .bool false])
      | some U => ∃ g, e = .returned (.tuple #[ptrS g, .bool true]) ∧ Shp w' U g) ∧ Below w.heap.size w w' := by
  obtain ⟨h1, h2, h3, h4, h5, ⟨D, hown, hmi⟩, h7⟩ := h.out
  obtain ⟨hh, hi⟩ := hmi.2 v
  have hkey : keyOf Tryd.prog 3 (.int .i64 v) = some (.int .i64 v) := keyOf_int_mk Tryd.underlying3 (wf_var hr)
  cases hf : fst xs false v with
  | none =>
    have hs : sgB xs v = none := by unfold sgB; rw [hf]; rfl
    have hhas : Maps.has D (.int .i64 v) = false := by rw [hh, hf]; rfl
    simp only [hs]
    clear hs hf hh hi hmi h7 h
    go_enter Tryd.func60, Tryd.ntmps60
    go_wp2_with (at_lookup; refine wpList_lookup_own_ok_int _ rfl _ _ 119 rfl 3 3 .i64 lawI Tryd.underlying119 Tryd.underlying3 (zeroI _) bm n D rfl hown _ _ rfl hkey ?_; intro c' hat hwc)
    go_ret2
    exact ⟨rfl, Below.refl _ _⟩
  | some i =>
    obtain ⟨hil, hir, hiv⟩ := fst_some hf
    have hs : sgB xs v = some (treeOf (xs.getD i bn0).ns) := by unfold sgB; rw [hf]; rfl
    have hhas : Maps.has D (.int .i64 v) = true := by rw [hh, hf]; rfl
    have hati := hi i hf
    have hok := bsV_at hv hil
    rw [ok_holds] at hok
    unfold holdsB at hok
    rw [hir] at hok
    simp only [Bool.and_eq_true, Bool.false_eq_true, if_false] at hok
    have hty := hok.2.2
    obtain ⟨_, h8⟩ := h7
    obtain ⟨b, off, rfl, h9, h10⟩ : ∃ b off, a = some ⟨b, off, none⟩ ∧ BnSl w b off xs ∧ b < w.heap.size := by
      rcases h8 with rfl | h8
      · simp at hil
      · exact h8
    obtain ⟨hB, hA, hn⟩ := h9 i hil
    simp only [hs]
    generalize xs.getD i bn0 = x at hB hA hn hty
    have hto := tyV_of hty
    obtain ⟨hA1, hA2⟩ := hA
    obtain ⟨b', off', hA3, hA4, hA5⟩ : ∃ b off, x.ad = some ⟨b, off, none⟩ ∧ TySl w b off x.ns ∧ b < w.heap.size := by
      rcases hA2 with h0 | h0
      · rw [h0] at hto; have := hto.2.2.1; have := (treeOf ([] : List Ty)).sz_pos; simp at *; omega
      · exact h0
    have kO := Lib.hid (shOf_tree b' off' x.c x.ns (treeOf x.ns) w (Lib.hid hA4) hA5 hty hto.1 hto.2.2.2.2)
    generalize treeOf x.ns = U at kO
    have e2 : w.cell? ⟨b, off + i * 8 + 2, none⟩ = some (.slice (some ⟨b', off', none⟩) x.ns.length x.c) := by rw [hB.2.2.1, hA3, hA1]
    have hi0 : (0 : Int) ≤ (i : Int) := by omega
    have hil' : (i : Int) < (xs.length : Int) := by omega
    clear hs hf hh hi hmi h h8 h9 hB hA1 hA2 hA3 hA4 hty hto hok hv hir hiv
    go_enter Tryd.func60, Tryd.ntmps60
    go_wp2_with (at_lookup; refine wpList_lookup_own_ok_int _ rfl _ _ 119 rfl 3 3 .i64 lawI Tryd.underlying119 Tryd.underlying3 (zeroI _) bm n D rfl hown _ _ rfl hkey ?_; intro c' hat hwc; obtain rfl : c' = i := (by rw [hati] at hat; injection hat with hat; injection hat with _ hat; exact hat.symm))
    refine kO.out.mono ?_
    rintro e w1 ⟨g, rfl, hs1, hb1⟩
    go_wp2_with fail
    go_ret2
    exact ⟨⟨g, rfl, hs1⟩, hb1⟩
set_option maxRecDepth 100000 in
set_option maxHeartbeats 4000000 in
theorem tails1_any (p1 p2 bm n : Nat) (a : Option Addr) (c : Nat) (xs : List Bn) (w : World) (h : Hid (CapW w p1 p2 bm n a c xs true)) (hv : bsV xs = true) (v : Int) (hr : 0 ≤ v ∧ v < 4096) :
    Calls Tryd.prog 61 #[.int .i64 v, .pointer (some ⟨p1, 0, none⟩), .pointer (some ⟨p2, 0, none⟩)] w
    fun e w' => (match rhB xs v with
      | none => e = .returned (.tuple #[.agg #[.int .i64 0, .int .i64 0, .int .i64 0, .int .i64 0, .int .i64 0], .bool false])
      | some q => e = .returned (.tuple #[.agg #[.int .i64 q.a, .int .i64 q.b, .int .i64 q.c, .int .i64 q.d, .int .i64 q.t], .bool true])) ∧ Below w.heap.size w w' := by
  obtain ⟨h1, h2, h3, h4, h5, ⟨D, hown, hmi⟩, h7⟩ := h.out
  obtain ⟨hh, hi⟩ := hmi.2 v
  have hkey : keyOf Tryd.prog 3 (.int .i64 v) = some (.int .i64 v) := keyOf_int_mk Tryd.underlying3 (wf_var hr)
  cases hf : fst xs true v with
  | none =>
    have hs : rhB xs v = none := by unfold rhB; rw [hf]; rfl
    have hhas : Maps.has D (.int .i64 v) = false := by rw [hh, hf]; rfl
    simp only [hs]
    clear hs hf hh hi hmi h7 h
    go_enter Tryd.func61, Tryd.ntmps61
    go_wp2_with (at_lookup; refine wpList_lookup_own_ok_int _ rfl _ _ 119 rfl 3 3 .i64 lawI Tryd.underlying119 Tryd.underlying3 (zeroI _) bm n D rfl (hown.alloc _) _ _ rfl hkey ?_; intro c' hat hwc)
    exact bodyPost_ret (v := .tuple #[.agg #[.int .i64 0, .int .i64 0, .int .i64 0, .int .i64 0, .int .i64 0], .bool false]) (by simp [results, Tryd.results61, go_sem, *]) rfl ⟨rfl, by (repeat' (first | with_reducible exact Below.refl _ _ | with_reducible assumption | with_reducible apply Below.setCell | with_reducible apply Below.alloc | with_reducible apply Below.drew | with_reducible apply below_drewN | with_reducible exact Nat.le_refl _ | (simp; done) | (simp; omega) | omega | exact Nat.le_refl _))⟩
  | some i =>
    obtain ⟨hil, hir, hiv⟩ := fst_some hf
    have hs : rhB xs v = some (xs.getD i bn0).r := by unfold rhB; rw [hf]; rfl
    have hhas : Maps.has D (.int .i64 v) = true := by rw [hh, hf]; rfl
    have hati := hi i hf
    obtain ⟨_, h8⟩ := h7
    obtain ⟨b, off, rfl, h9, h10⟩ : ∃ b off, a = some ⟨b, off, none⟩ ∧ BnSl w b off xs ∧ b < w.heap.size := by
      rcases h8 with rfl | h8
      · simp at hil
      · exact h8
    have hB := (h9 i hil).1
    simp only [hs]
    generalize xs.getD i bn0 = x at hB
    obtain ⟨e0, e1, e2, e3, e4, e5, e6, e7⟩ := hB
    have hi0 : (0 : Int) ≤ (i : Int) := by omega
    have hil' : (i : Int) < (xs.length : Int) := by omega
    clear hs hf hh hi hmi h h8 h9 hv hir hiv
    go_enter Tryd.func61, Tryd.ntmps61
    go_wp2_with (at_lookup; refine wpList_lookup_own_ok_int _ rfl _ _ 119 rfl 3 3 .i64 lawI Tryd.underlying119 Tryd.underlying3 (zeroI _) bm n D rfl (hown.alloc _) _ _ rfl hkey ?_; intro c' hat hwc; obtain rfl : c' = i := (by rw [hati] at hat; injection hat with hat; injection hat with _ hat; exact hat.symm))
    exact bodyPost_ret (v := .tuple #[.agg #[.int .i64 x.r.a, .int .i64 x.r.b, .int .i64 x.r.c, .int .i64 x.r.d, .int .i64 x.r.t], .bool true]) (by simp [results, Tryd.results61, go_sem]) rfl ⟨rfl, by (repeat' (first | with_reducible exact Below.refl _ _ | with_reducible assumption | with_reducible apply Below.setCell | with_reducible apply Below.alloc | with_reducible apply Below.drew | with_reducible apply below_drewN | with_reducible exact Nat.le_refl _ | (simp; done) | (simp; omega) | omega | exact Nat.le_refl _))⟩
end Go.Proofs.YtfkdcconmecaoaaDoor

/- subst.types, tails; subst.Type, Row. -/
namespace Go.Proofs.YtfkdcconmecaoaaDoor
open Go.RowKit Go.Maps
set_option linter.unusedVariables false
set_option linter.unusedSimpArgs false

theorem FnT.below {F p1 p2 : Nat} {σ : Int → Option TT} {w w' : World} (h : FnT F p1 p2 σ w) (hb : Below w.heap.size w w') : FnT F p1 p2 σ w' := fun v W hr hW => h v W hr (hb.trans (hW.mono hb.size))
theorem FnR.below {F p1 p2 : Nat} {ρ : Int → Option Rw} {w w' : World} (h : FnR F p1 p2 ρ w) (hb : Below w.heap.size w w') : FnR F p1 p2 ρ w' := fun v W hr hW => h v W hr (hb.trans (hW.mono hb.size))
set_option maxHeartbeats 2000000 in
theorem types_any (a : Option Addr) (c : Nat) (xs : List Bn) (w : World) (h : Hid (BnArg w a xs.length xs)) (hv : bsV xs = true) :
    Calls Tryd.prog 30 #[.slice a xs.length c] w fun e w' => ∃ p1 p2, e = .returned (fnV 60 p1 p2) ∧ FnT 60 p1 p2 (sgB xs) w' ∧ Below w.heap.size w w' := by
  have kF := Lib.hid fun (W : World) (hb : Below w.heap.size w W) => firsts_any a xs.length c xs false W (Lib.hid (h.out.below hb)) hv
  have hfin : Hid (∀ W p1 p2 bm, CapW W p1 p2 bm xs.length a c xs false → Below w.heap.size w W → ∃ q1 q2, (Ending.returned (fnV 60 p1 p2)) = .returned (fnV 60 q1 q2) ∧ FnT 60 q1 q2 (sgB xs) W ∧ Below w.heap.size w W) := Lib.hid fun W p1 p2 bm hc hb =>
    ⟨p1, p2, rfl, fun v W' hr hW => types1_any p1 p2 bm xs.length a c xs W' (Lib.hid (hc.below hW)) hv v hr, hb⟩
  unfold fnV at *
  clear hv
  go_enter Tryd.func30, Tryd.ntmps30
  go_wp2_with fail
  refine (kF.out _ (below_alc w _)).mono ?_
  rintro e w1 ⟨bm, rfl, hbm0, hbm1, hfm, hb1⟩
  have hb1' := Lib.hid hb1
  have hfm' := Lib.hid hfm
  clear hb1 hfm kF
  go_wp2_with fail
  go_ret
  refine hfin.out _ _ _ bm ?_ ?_
  · have hs := hb1'.out.size
    simp at hs
    exact ⟨by simp, by rw [World.cell?_alloc_past _ _ _ (by omega), hb1'.out.cell (p := ⟨w.heap.size, 0, none⟩) (by simp)]; simp, by simp, by simp; omega, by simp; omega, hfm'.out.below (below_alc w1 _) hbm1, h.out.below ((below_alc w _).trans ((hb1'.out.mono (by simp)).trans ((below_alc w1 _).mono (by omega))))⟩
  · exact (below_alc w _).trans ((hb1'.out.mono (by simp)).trans ((below_alc w1 _).mono (by have := hb1'.out.size; simp at this; omega)))
set_option maxHeartbeats 2000000 in
theorem tails_any (a : Option Addr) (c : Nat) (xs : List Bn) (w : World) (h : Hid (BnArg w a xs.length xs)) (hv : bsV xs = true) :
    Calls Tryd.prog 31 #[.slice a xs.length c] w fun e w' => ∃ p1 p2, e = .returned (fnV 61 p1 p2) ∧ FnR 61 p1 p2 (rhB xs) w' ∧ Below w.heap.size w w' := by
  have kF := Lib.hid fun (W : World) (hb : Below w.heap.size w W) => firsts_any a xs.length c xs true W (Lib.hid (h.out.below hb)) hv
  have hfin : Hid (∀ W p1 p2 bm, CapW W p1 p2 bm xs.length a c xs true → Below w.heap.size w W → ∃ q1 q2, (Ending.returned (fnV 61 p1 p2)) = .returned (fnV 61 q1 q2) ∧ FnR 61 q1 q2 (rhB xs) W ∧ Below w.heap.size w W) := Lib.hid fun W p1 p2 bm hc hb =>
    ⟨p1, p2, rfl, fun v W' hr hW => tails1_any p1 p2 bm xs.length a c xs W' (Lib.hid (hc.below hW)) hv v hr, hb⟩
  unfold fnV at *
  clear hv
  go_enter Tryd.func31, Tryd.ntmps31
  go_wp2_with fail
  refine (kF.out _ (below_alc w _)).mono ?_
  rintro e w1 ⟨bm, rfl, hbm0, hbm1, hfm, hb1⟩
  have hb1' := Lib.hid hb1
  have hfm' := Lib.hid hfm
  clear hb1 hfm kF
  go_wp2_with fail
  go_ret
  refine hfin.out _ _ _ bm ?_ ?_
  · have hs := hb1'.out.size
    simp at hs
    exact ⟨by simp, by rw [World.cell?_alloc_past _ _ _ (by omega), hb1'.out.cell (p := ⟨w.heap.size, 0, none⟩) (by simp)]; simp, by simp, by simp; omega, by simp; omega, hfm'.out.below (below_alc w1 _) hbm1, h.out.below ((below_alc w _).trans ((hb1'.out.mono (by simp)).trans ((below_alc w1 _).mono (by omega))))⟩
  · exact (below_alc w _).trans ((hb1'.out.mono (by simp)).trans ((below_alc w1 _).mono (by have := hb1'.out.size; simp at this; omega)))

theorem ownT_put {B k o : Nat} {w : World} {v x : Value} {l : List Ty} (h : OwnT B w v l) (hk : k < B) : OwnT B (w.setCell ⟨k, o, none⟩ x) v l := by
  refine ⟨h.1, ?_⟩
  rcases h.2 with h | ⟨g, cap, cur, e1, e2, e3, e4⟩
  · exact .inl h
  · exact .inr ⟨g, cap, cur, e1, e2, by rw [Deep.blk_setCell_other _ _ _ _ (show g ≠ k by omega)]; exact e3, e4⟩
/-- a type under binds; nothing, if it may not be. -/
def subT (xs : List Bn) (ts : List Ty) : List Ty :=
  if bsV xs && tyV ts then (if (putT (sgB xs) (rhB xs) (treeOf ts)).fits then fl 0 (putT (sgB xs) (rhB xs) (treeOf ts)) else []) else []
def subE (xs : List Bn) (ts : List Ty) : Int := if (bsV xs && tyV ts) && (putT (sgB xs) (rhB xs) (treeOf ts)).fits then 0 else 900
def SubPost (xs : List Bn) (ts : List Ty) (w : World) (e : Ending) (w' : World) : Prop := ∃ v, e = .returned (.tuple #[.agg #[v], .int .i64 (subE xs ts)]) ∧ OwnT w.heap.size w' v (subT xs ts) ∧ Below w.heap.size w w'
theorem sub_no {xs : List Bn} {ts : List Ty} {w w' : World} (h : ((bsV xs && tyV ts) && (putT (sgB xs) (rhB xs) (treeOf ts)).fits) = false) (hb : Below w.heap.size w w') : SubPost xs ts w (.returned (.tuple #[.agg #[.slice none 0 0], .int .i64 900])) w' := by
  refine ⟨.slice none 0 0, by unfold subE; rw [h]; rfl, ?_, hb⟩
  have e : subT xs ts = [] := by
    unfold subT
    cases h1 : (bsV xs && tyV ts)
    · rfl
    · rw [h1, Bool.true_and] at h; rw [h]; rfl
  rw [e]; exact OwnT.nil _ _
set_option maxRecDepth 100000 in
set_option maxHeartbeats 4000000 in
theorem subType_any (a a2 : Option Addr) (n c n2 c2 : Nat) (xs : List Bn) (ts : List Ty) (w : World) (h : Hid (BnArg w a n xs)) (h2 : Hid (TyArg w a2 n2 ts)) (hl : n ≤ 140737488351232) (hl2 : n2 ≤ 140737488351232) :
    Calls Tryd.prog 12 #[.slice a n c, .agg #[.slice a2 n2 c2]] w (SubPost xs ts w) := by
  have kM := Lib.hid fun (W : World) (hb : Below w.heap.size w W) => smay_any a n c xs W (Lib.hid (h.out.below hb)) hl
  have kT := Lib.hid fun (W : World) (hb : Below w.heap.size w W) => tyMay_any a2 n2 c2 ts W (Lib.hid (h2.out.below hb)) hl2
  cases hbv : bsV xs
  · rw [hbv] at kM
    have hno := Lib.hid fun (w' : World) => sub_no (xs := xs) (ts := ts) (w := w) (w' := w') (by rw [hbv]; rfl)
    clear hbv kT
    go_enter Tryd.func12, Tryd.ntmps12
    go_wp2_with fail
    refine (kM.out _ (below_alc2 w _ _)).mono ?_
    rintro e w1 ⟨rfl, hb1⟩
    obtain ⟨hc1, hf1⟩ := bcell hb1
    have hz1_0 : w.heap.size < w1.heap.size := by have := hb1.size; (try simp at this); omega
    have hz1_1 : w.heap.size + 1 < w1.heap.size := by have := hb1.size; (try simp at this); omega
    have hcl1_1_0 : w1.cell? ⟨w.heap.size + 1, 0, none⟩ = some (.slice none 0 0) := by rw [hc1 _ _ (by simp; try omega)]; simp
    have hfl1_1_0 : w1.frozen? ⟨w.heap.size + 1, 0, none⟩ = false := by rw [hf1 _ _ (by simp; try omega)]; simp
    have hB := Lib.hid (belT (below_alc2 w _ _) hb1)
    clear hc1 hf1 hb1
    go_wp2_with fail
    exact bodyPost_ret (v := .tuple #[.agg #[.slice none 0 0], .int .i64 900]) (by simp [results, Tryd.results12, go_sem, *]) rfl (hno.out _ (by have := hB.out; (repeat' (first | with_reducible exact Below.refl _ _ | with_reducible assumption | with_reducible apply Below.setCell | with_reducible apply Below.alloc | with_reducible apply Below.drew | with_reducible apply below_drewN | with_reducible exact Nat.le_refl _ | (simp; done) | (simp; omega) | omega | exact Nat.le_refl _))))
  have hq := Lib.hid fun (W : World) (hb : Below ((w.alloc (.cells #[.slice a2 n2 c2] 24)).alloc (.cells #[.slice none 0 0] 24)).heap.size ((w.alloc (.cells #[.slice a2 n2 c2] 24)).alloc (.cells #[.slice none 0 0] 24)) W) =>
    (show W.cell? ⟨w.heap.size, 0, none⟩ = some (.slice a2 n2 c2) ∧ W.cell? ⟨w.heap.size + 1, 0, none⟩ = some (.slice none 0 0) ∧ W.frozen? ⟨w.heap.size + 1, 0, none⟩ = false ∧ w.heap.size + 1 < W.heap.size ∧ Below w.heap.size w W from
      ⟨by rw [hb.cell (p := ⟨w.heap.size, 0, none⟩) (by simp; omega)]; simp, by rw [hb.cell (p := ⟨w.heap.size + 1, 0, none⟩) (by simp)]; simp, by rw [hb.frozen (p := ⟨w.heap.size + 1, 0, none⟩) (by simp)]; simp [go_sem], by have := hb.size; simp at this; omega, (below_alc2 w _ _).trans (hb.mono (by simp; omega))⟩)
  cases htv : tyV ts
  · rw [hbv] at kM
    rw [htv] at kT
    have hno := Lib.hid fun (w' : World) => sub_no (xs := xs) (ts := ts) (w := w) (w' := w') (by rw [hbv, htv]; rfl)
    clear hbv htv
    go_enter Tryd.func12, Tryd.ntmps12
    go_wp2_with fail
    refine (kM.out _ (below_alc2 w _ _)).mono ?_
    rintro e w1 ⟨rfl, hb1⟩
    obtain ⟨x0, x1, x2, x3, x4⟩ := hq.out _ hb1
    have hb1' := Lib.hid hb1
    clear hb1
    go_wp2_with fail
    refine (kT.out _ x4).mono ?_
    rintro e w2 ⟨rfl, hb2⟩
    have hb2' := Lib.hid (belT hb1'.out hb2)
    obtain ⟨y0, y1, y2, y3, y4⟩ := hq.out _ hb2'.out
    clear hb2 x0 x1 x2 x3 x4
    go_wp2_with fail
    exact bodyPost_ret (v := .tuple #[.agg #[.slice none 0 0], .int .i64 900]) (by simp [results, Tryd.results12, go_sem, y1, y2]) rfl (hno.out _ (by (repeat' (first | with_reducible exact Below.refl _ _ | with_reducible assumption | with_reducible apply Below.setCell | with_reducible apply Below.alloc | with_reducible apply Below.drew | with_reducible apply below_drewN | with_reducible exact Nat.le_refl _ | (simp; done) | (simp; omega) | omega | exact Nat.le_refl _))))
  · have hto := tyV_of htv
    obtain ⟨rfl, hA2⟩ := h2.out
    obtain ⟨b', off', rfl, hA4, hA5⟩ : ∃ b off, a2 = some ⟨b, off, none⟩ ∧ TySl w b off ts ∧ b < w.heap.size := by
      rcases hA2 with h0 | h0
      · rw [h0] at hto; have := hto.2.2.1; have := (treeOf ([] : List Ty)).sz_pos; simp at *; omega
      · exact h0
    obtain ⟨rfl, _⟩ := h.out
    have kO := Lib.hid fun (W : World) (hb : Below w.heap.size w W) => shOf_tree b' off' c2 ts (treeOf ts) W (Lib.hid (hA4.below hb hA5)) (by have := hb.size; omega) htv hto.1 hto.2.2.2.2
    have kTy := Lib.hid fun (W : World) (hb : Below w.heap.size w W) => types_any a c xs W (Lib.hid (h.out.below hb)) hbv
    have kTa := Lib.hid fun (W : World) (hb : Below w.heap.size w W) => tails_any a c xs W (Lib.hid (h.out.below hb)) hbv
    have kP := Lib.hid fun (p1 p2 q1 q2 : Nat) (W : World) (g : Nat) (hT : FnT 60 p1 p2 (sgB xs) W) (hR : FnR 61 q1 q2 (rhB xs) W) (hS : Shp W (treeOf ts) g) =>
      put_any 60 p1 p2 61 q1 q2 (sgB xs) (rhB xs) W (Lib.hid fun _ _ => by kernel_rfl) (Lib.hid fun _ _ => by kernel_rfl) (Lib.hid hT) (Lib.hid hR) (rhB_ok hbv) (treeOf ts) g W (Lib.hid hS) (Lib.hid (Below.refl _ _)) hto.1 (by have := putT_sz (ρ := rhB xs) (fun v U h => (sgB_ok hbv v U h).2) (treeOf ts); omega)
    have hyes := Lib.hid fun (hf : (putT (sgB xs) (rhB xs) (treeOf ts)).fits = true) => (show subT xs ts = fl 0 (putT (sgB xs) (rhB xs) (treeOf ts)) ∧ subE xs ts = 0 ∧ (putT (sgB xs) (rhB xs) (treeOf ts)).sz ≤ 256 from
      ⟨by unfold subT; rw [hbv, htv, hf]; rfl, by unfold subE; rw [hbv, htv, hf]; rfl, by unfold TT.fits at hf; simp only [Bool.and_eq_true, decide_eq_true_eq] at hf; exact hf.1⟩)
    have hno := Lib.hid fun (w' : World) (hf : (putT (sgB xs) (rhB xs) (treeOf ts)).fits = false) => sub_no (xs := xs) (ts := ts) (w := w) (w' := w') (by rw [hf]; simp)
    rw [hbv] at kM
    rw [htv] at kT
    generalize putT (sgB xs) (rhB xs) (treeOf ts) = P at kP hyes hno
    clear hbv htv hto hA2 hA4
    unfold fnV ptrS at *
    go_enter Tryd.func12, Tryd.ntmps12
    go_wp2_with fail
    refine (kM.out _ (below_alc2 w _ _)).mono ?_
    rintro e w1 ⟨rfl, hb1⟩
    obtain ⟨x0, x1, x2, x3, x4⟩ := hq.out _ hb1
    have hB1 := Lib.hid hb1
    clear hb1
    go_wp2_with fail
    refine (kT.out _ x4).mono ?_
    rintro e w2 ⟨rfl, hb2⟩
    have hB2 := Lib.hid (belT hB1.out hb2)
    obtain ⟨y0, y1, y2, y3, y4⟩ := hq.out _ hB2.out
    clear hb2 x0 x1 x2 x3 x4
    go_wp2_with fail
    refine (kO.out _ y4).mono ?_
    rintro e w3 ⟨g3, rfl, hs3, hb3⟩
    have hB3 := Lib.hid (belT hB2.out hb3)
    have hS3 := Lib.hid hs3
    have hw3 := (hq.out _ hB3.out).2.2.2.2
    clear hb3 hs3 y0 y1 y2 y3 y4
    go_wp2_with fail
    refine (kTy.out _ hw3).mono ?_
    rintro e w4 ⟨p1, p2, rfl, hf4, hb4⟩
    have hB4 := Lib.hid (belT hB3.out hb4)
    have hS4 := Lib.hid (hS3.out.keep hb4)
    have hF4 := Lib.hid hf4
    have hw4 := (hq.out _ hB4.out).2.2.2.2
    clear hb4 hf4 hw3
    go_wp2_with fail
    refine (kTa.out _ hw4).mono ?_
    rintro e w5 ⟨q1, q2, rfl, hf5, hb5⟩
    have hB5 := Lib.hid (belT hB4.out hb5)
    have hS5 := Lib.hid (hS4.out.keep hb5)
    have hF5 := Lib.hid (And.intro (hF4.out.below hb5) hf5)
    clear hb5 hf5 hw4
    go_wp2_with fail
    refine (kP.out p1 p2 q1 q2 _ g3 hF5.out.1 hF5.out.2 hS5.out).mono ?_
    rintro e w6 ⟨g6, rfl, hs6, hb6⟩
    have hB6 := Lib.hid (belT hB5.out hb6)
    have hS6 := Lib.hid hs6
    clear hb6 hs6
    go_wp2_with fail
    refine (shFits_any P g6 _ hS6).mono ?_
    rintro e w7 ⟨rfl, hb7⟩
    have hB7 := Lib.hid (belT hB6.out hb7)
    have hS7 := Lib.hid (hS6.out.keep hb7)
    obtain ⟨y0, y1, y2, y3, y4⟩ := hq.out _ hB7.out
    clear hb7
    cases hfit : P.fits
    · have hno' := Lib.hid fun (w' : World) => hno.out w' hfit
      clear hfit
      go_wp2_with fail
      exact bodyPost_ret (v := .tuple #[.agg #[.slice none 0 0], .int .i64 900]) (by simp [results, Tryd.results12, go_sem, y1, y2]) rfl (hno'.out _ (by (repeat' (first | with_reducible exact Below.refl _ _ | with_reducible assumption | with_reducible apply Below.setCell | with_reducible apply Below.alloc | with_reducible apply Below.drew | with_reducible apply below_drewN | with_reducible exact Nat.le_refl _ | (simp; done) | (simp; omega) | omega | exact Nat.le_refl _))))
    · obtain ⟨z1, z2, z3⟩ := hyes.out hfit
      have hpost : Hid (∀ W v, OwnT w.heap.size W v (fl 0 P) → Below w.heap.size w W → SubPost xs ts w (.returned (.tuple #[.agg #[v], .int .i64 0])) W) := Lib.hid fun W v hv hb => ⟨v, by rw [z2], by rw [z1]; exact hv, hb⟩
      have kTp := Lib.hid (shType_any P g6 w7 hS7 z3)
      have hL1 : 0 < (fl 0 P).length := by rw [fl_len]; exact P.sz_pos
      generalize fl 0 P = L at kTp hpost hL1
      unfold ptrS at kTp
      clear hfit z1 z2 z3 hyes hno
      go_wp2_with fail
      refine kTp.out.mono ?_
      rintro e w8 ⟨v8, rfl, ho8, hb8⟩
      have hB8 := Lib.hid (belT hB7.out hb8)
      obtain ⟨u0, u1, u2, u3, u4⟩ := hq.out _ hB8.out
      have ho8' := Lib.hid ho8
      have hz7 := Lib.hid y3
      obtain ⟨G, cp, rfl, _⟩ := ownT_some ho8 hL1
      clear ho8 hb8 y0 y1 y2 y4
      go_wp2_with fail
      exact bodyPost_ret (v := .tuple #[.agg #[.slice (some ⟨G, 0, none⟩) L.length cp], .int .i64 0]) (by simp [results, Tryd.results12, go_sem, u1, u2]) rfl (hpost.out _ _ (ownT_le (ownT_put ho8'.out (show w.heap.size + 1 < w7.heap.size from hz7.out)) (by have := hz7.out; omega)) (by (repeat' (first | with_reducible exact Below.refl _ _ | with_reducible assumption | with_reducible apply Below.setCell | with_reducible apply Below.alloc | with_reducible apply Below.drew | with_reducible apply below_drewN | with_reducible exact Nat.le_refl _ | (simp; done) | (simp; omega) | omega | exact Nat.le_refl _))))
end Go.Proofs.YtfkdcconmecaoaaDoor
