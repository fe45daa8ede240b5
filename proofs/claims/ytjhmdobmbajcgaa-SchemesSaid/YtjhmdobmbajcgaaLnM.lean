/- CopyInts, LendInts, SpoilInts; SameScheme, SpoilScheme. -/
import Derived.Test.YtjhmdobmbajcgaaTkD
import Derived.Test.YtjhmdobmbajcgaaBar
import Derived.Test.YtjhmdobmbajcgaaSbM
import Derived.Test.YtjhmdobmbajcgaaVrE
import Derived.Test.YtjhmdobmbajcgaaArw
import Derived.Test.YtjhmdobmbajcgaaFmP
import Derived.Test.YtjhmdobmbajcgaaVrD
import Derived.Test.YtjhmdobmbajcgaaTyS
import Derived.Deep.RegionHeld3
import Derived.Test.YtjhmdobmbajcgaaDsA
import Derived.Test.YtjhmdobmbajcgaaTkC
import Derived.BigQuiet
import Derived.Deep.QuietTactic
import Derived.Test.YtjhmdobmbajcgaaRcB
/- CopyInts, LendInts, SpoilInts; SameScheme, SpoilScheme. -/
namespace Go.Proofs.Ytjhmdobmbajcgaa
open Go.RowKit
set_option linter.unusedVariables false
set_option linter.unusedSimpArgs false

theorem inL_len (l : List Int) : (inL l).length = l.length * 1 := by simp [inL]
theorem OwnI.fresh (w : World) : OwnI w.heap.size (w.alloc (.cells #[] 3)) (.slice (some ⟨w.heap.size, 0, none⟩) 0 0) [] :=
  ⟨rfl, .inr ⟨w.heap.size, 0, #[], rfl, Nat.le_refl _, heap_alloc_last _ _, Nat.le_refl _, by decide, rfl, rfl⟩⟩
theorem copyInts_nil (a : Option Addr) (c : Nat) (w : World) :
    Calls Try.prog 55 #[.slice a 0 c] w fun e w' => ∃ v, e = .returned v ∧ OwnI w.heap.size w' v [] ∧ Below w.heap.size w w' := by
  obtain ⟨i0, hi, hz0, hz1, hz2⟩ := info_parts infoI
  have hown0 := Lib.hid (OwnI.fresh w)
  cases a with
  | some ad =>
    go_enter Try.func55, Try.ntmps55
    go_wp2_with (at_builtin; refine wpList_append_own _ rfl (.tmp 3) (.tmp 4) 54 rfl w.heap.size 3 i0 (.int .i64 0) 1 8 Try.underlying54 hi hz0 hz1 hz2 rfl (by decide) _ 0 [] rfl hown0.out ad 0 c [] rfl rfl (by intro j u hj; simp at hj) (by intro u hu; simp at hu) (by unfold maxLen; omega) (by omega) (by simp) ?_)
    intro v' w1 hown1 hgr _
    have hbel : Below w.heap.size w w1 := ((Below.refl _ _).alloc (Nat.le_refl _) _).grown hgr (by simp) (by intro k hk; simp [Value.ownBlock] at hk; omega)
    have hown1' := Lib.hid hown1; clear hown1 hgr
    go_wp2_with fail
    go_ret
    exact ⟨v', rfl, hown1'.out, hbel⟩
  | none =>
  go_enter Try.func55, Try.ntmps55
  go_wp2_with fail
  go_ret
  exact ⟨_, rfl, hown0.out, by (repeat' (first | with_reducible exact Below.refl _ _ | with_reducible assumption | with_reducible apply Below.setCell | with_reducible apply Below.alloc | with_reducible apply Below.drew | with_reducible apply below_drewN | with_reducible exact Nat.le_refl _ | (simp; done) | (simp; omega) | omega | exact Nat.le_refl _))⟩
set_option maxHeartbeats 400000 in
theorem copyInts_sl (g off cp : Nat) (l : List Int) (w : World) (h : Hid (IsSl w g off l)) (hg : g < w.heap.size) (hl : l.length * 8 ≤ 140737488351232) :
    Calls Try.prog 55 #[.slice (some ⟨g, off, none⟩) l.length cp] w fun e w' => ∃ v, e = .returned v ∧ OwnI w.heap.size w' v l ∧ Below w.heap.size w w' := by
  obtain ⟨i0, hi, hz0, hz1, hz2⟩ := info_parts infoI
  have hown0' := Lib.hid (OwnI.fresh w)
  have hnews : Hid (∀ j u, (inL l)[j]? = some u → (w.alloc (.cells #[] 3)).cell? ((⟨g, off, none⟩ : Addr).add j) = some u) := Lib.hid (by
    intro j u hj
    have e : (⟨g, off, none⟩ : Addr).add j = ⟨g, off + j, none⟩ := by simp [Addr.add]; try omega
    rw [e, World.cell?_alloc_past _ _ _ hg]
    rw [inL_get] at hj
    have hjl : j < l.length := by
      cases hq : l[j]? with
      | none => rw [hq] at hj; cases hj
      | some _ => exact (List.getElem?_eq_some_iff.1 hq).1
    rw [h.out j hjl, ← hj, List.getD_eq_getElem?_getD, List.getElem?_eq_getElem hjl]; rfl)
  go_enter Try.func55, Try.ntmps55
  go_wp2_with (at_builtin; refine wpList_append_own _ rfl (.tmp 3) (.tmp 4) 54 rfl w.heap.size 3 i0 (.int .i64 0) 1 8 Try.underlying54 hi hz0 hz1 hz2 rfl (by decide) _ 0 [] rfl hown0'.out ⟨g, off, none⟩ l.length cp (inL l) rfl (inL_len l) hnews.out (inL_one l) (by unfold maxLen; omega) (by omega) (by simp) ?_)
  intro v' w1 hown1 hgr _
  have hbel : Below w.heap.size w w1 := ((Below.refl _ _).alloc (Nat.le_refl _) _).grown hgr (by simp) (by intro k hk; simp [Value.ownBlock] at hk; omega)
  (try rw [Nat.zero_add, List.nil_append] at hown1)
  have hown1' := Lib.hid hown1; clear hown1 hgr
  go_wp2_with fail
  go_ret
  exact ⟨v', rfl, hown1'.out, hbel⟩
theorem copyInts_any (a : Option Addr) (n c : Nat) (l : List Int) (w : World) (h : Hid (IsArg w a n l)) (hl : n * 8 ≤ 140737488351232) :
    Calls Try.prog 55 #[.slice a n c] w fun e w' => ∃ v, e = .returned v ∧ OwnI w.heap.size w' v l ∧ Below w.heap.size w w' := by
  obtain ⟨rfl, rfl | ⟨b, off, rfl, h1, h2⟩⟩ := h.out
  · exact copyInts_nil a c w
  · exact copyInts_sl b off c l w (Lib.hid h1) h2 hl
set_option maxRecDepth 100000 in
set_option maxHeartbeats 4000000 in
theorem lendInts_any (a : Option Addr) (n c : Nat) (l : List Int) (w : World) (h : Hid (IsArg w a n l)) (hl : n * 8 ≤ 140737488351232) :
    Calls Try.prog 23 #[.slice a n c] w fun e w' => ∃ g d, e = .returned (.slice (some ⟨g, 0, none⟩) n d) ∧ n ≤ d ∧ w.heap.size ≤ g ∧ IsArg w' (some ⟨g, 0, none⟩) n l ∧ Below w.heap.size w w' := by
  obtain ⟨i0, hi, hz0, hz1, hz2⟩ := info_parts infoI
  have hn' := Lib.hid h.out.1
  go_enter Try.func23, Try.ntmps23
  go_wp2_with fail
  refine (copyInts_any a n c l w h hl).mono ?_
  rintro e w1 ⟨v, rfl, hv, hb1⟩
  have hs1 := hb1.size
  have hown := Lib.hid (World.ownsRow.alloc hv (.cells #[.int .i64 (-7777), .int .i64 (-8888)] 3))
  have hnews : Hid (∀ j u, ([.int .i64 (-7777), .int .i64 (-8888)] : List Value)[j]? = some u → (w1.alloc (.cells #[.int .i64 (-7777), .int .i64 (-8888)] 3)).cell? ((⟨w1.heap.size, 0, none⟩ : Addr).add j) = some u) := Lib.hid (by
    intro j u hj
    have e : (⟨w1.heap.size, 0, none⟩ : Addr).add j = ⟨w1.heap.size, j, none⟩ := by simp [Addr.add]; try omega
    rw [e, World.cell?_alloc_new]
    simpa using hj)
  have hv' := Lib.hid hv
  clear hv
  go_wp2_with (at_builtin; refine wpList_append_own (w := w1.alloc (.cells #[.int .i64 (-7777), .int .i64 (-8888)] 3)) rfl (.tmp 5) (.tmp 6) 54 rfl w.heap.size 3 i0 (.int .i64 0) 1 8 Try.underlying54 hi hz0 hz1 hz2 rfl (by decide) _ l.length (inL l) rfl hown.out ⟨w1.heap.size, 0, none⟩ 2 2 [.int .i64 (-7777), .int .i64 (-8888)] rfl rfl hnews.out (by intro u hu; simp at hu; rcases hu with rfl | rfl <;> rfl) (by have := hn'.out; unfold maxLen; omega) (by have := hn'.out; omega) (by simp; omega) ?_)
  intro v' w2 hown2 hgr _
  have hb2 : Below w.heap.size w w2 := (hb1.alloc hs1 _).grown hgr (by simp; omega) (by intro k hk; exact (own_lt hv'.out k hk).1)
  obtain ⟨g, cap, cur, rfl, hbg, hg, hnc, hcm, hcs, htk⟩ := Or.resolve_left hown2.2 (by rintro ⟨_, h0⟩; omega)
  have hcell := hown2.cells (g := g) rfl
  have hgl : g < w2.heap.size := by
    cases hq : w2.heap[g]? with
    | none => rw [hq] at hg; cases hg
    | some _ => exact (Array.getElem?_eq_some_iff.1 hq).1
  have hA : Hid (IsArg w2 (some ⟨g, 0, none⟩) n l) := Lib.hid ⟨hn'.out, .inr ⟨g, 0, rfl, fun i hi => by
    have e : ((⟨g, 0, none⟩ : Addr).add i) = ⟨g, 0 + i, none⟩ := by simp [Addr.add]; try omega
    rw [← e]
    refine hcell i _ ?_
    rw [List.getElem?_append_left (by simpa [inL] using hi), inL_get, List.getElem?_eq_getElem hi, List.getD_eq_getElem?_getD, List.getElem?_eq_getElem hi]; rfl, hgl⟩⟩
  have hb2 := Lib.hid hb2
  have hcap : n ≤ cap := by have := hn'.out; omega
  have hcap2 : (n : Int) ≤ (cap : Int) := by omega
  have hn0 : (0 : Int) ≤ (n : Int) := by omega
  clear hcell hown2 hgr hg htk hcs hown hnews
  go_wp2_with fail
  go_ret
  exact ⟨g, _, rfl, by first | exact hcap | omega, hbg, hA.out, hb2.out⟩
theorem spoilInts_nil (w : World) : Calls Try.prog 64 #[.slice none 0 0] w fun e w' => e = .returned (.tuple #[]) ∧ w = w' := by
  go_enter Try.func64, Try.ntmps64
  go_wp2_with fail
  go_loop [2] (fun i => i = .int .i64 0) (fun _ => 0)
  case atStart => rfl
  case round =>
    obtain rfl := hrel
    go_wp2_with fail
    go_end0
    exact ⟨rfl, rfl⟩
set_option maxHeartbeats 1000000 in
theorem spoilInts_sl (g cp : Nat) (l : List Int) (w : World) (h : Hid (IsSl w g 0 l)) (hg : g < w.heap.size) (hf : Hid (∀ o, w.frozen? ⟨g, o, none⟩ = false)) (hl : l.length ≤ 1099511627776) :
    Calls Try.prog 64 #[.slice (some ⟨g, 0, none⟩) l.length cp] w fun e w' => e = .returned (.tuple #[]) ∧ Bar (fun k => k = g) w w' := by
  go_enter Try.func64, Try.ntmps64
  go_wp2_with fail
  go_loopw [2] (fun i wr => ∃ j : Nat, j ≤ l.length ∧ i = .int .i64 j ∧ Hid (Bar (fun k => k = g) w wr ∧ (∀ o, wr.frozen? ⟨g, o, none⟩ = false) ∧ ∀ k, j ≤ k → k < l.length → wr.cell? ⟨g, k, none⟩ = some (.int .i64 (l.getD k 0)))) (fun i _ => l.length - (intOf i).toNat)
  case atStart => exact ⟨0, by omega, rfl, Lib.hid ⟨Bar.refl _ _, hf.out, fun k _ hk => by have := h.out k hk; simpa using this⟩⟩
  case round =>
    obtain ⟨j, hj, rfl, hI⟩ := hrel
    by_cases hlt : j < l.length
    · have hc := hI.out.2.2 j (Nat.le_refl _) hlt
      have hz : wr.frozen? ⟨g, j, none⟩ = false := hI.out.2.1 _
      generalize (l.getD j 0) = t at hc
      have hlt' : (j : Int) < (l.length : Int) := by omega
      have hj0 : (0 : Int) ≤ (j : Int) := by omega
      have hgr : g < wr.heap.size := by have := hI.out.1.size; omega
      go_wp2_with fail
      go_roundw
      case rel =>
        refine ⟨j + 1, by omega, by go_num, Lib.hid ⟨hI.out.1.trans (Bar.set (S := fun k => k = g) _ _ rfl) fun _ _ hs => hs, fun o => by rw [World.frozen?_setCell]; exact hI.out.2.1 o, fun k hk hk2 => ?_⟩⟩
        rw [World.cell?_setCell_other _ _ _ _ (by intro e; injection e with _ e2; omega)]
        exact hI.out.2.2 k (by omega) hk2
      case measure => simp [intOf]; omega
    · go_wp2_with fail
      go_end0
      exact ⟨rfl, hI.out.1⟩
theorem spoilInts_any (B : Nat) (v : Value) (l : List Int) (w : World) (h : Hid (OwnI B w v l)) (hl : l.length ≤ 1099511627776) :
    Calls Try.prog 64 #[v] w fun e w' => e = .returned (.tuple #[]) ∧ Bar (fun k => v.ownBlock = some k) w w' := by
  rcases h.out.cases with ⟨rfl, rfl⟩ | ⟨g, c, rfl, hB, hg, _, hs, hf⟩
  · exact (spoilInts_nil w).mono fun e w' ⟨h1, h2⟩ => ⟨h1, h2 ▸ Bar.refl _ _⟩
  · exact (spoilInts_sl g c l w (Lib.hid hs) hg (Lib.hid hf) hl).mono fun e w' ⟨h1, h2⟩ => ⟨h1, h2.os, h2.tape, h2.output, h2.size, fun k hk hn => h2.block k hk (fun e => hn (by rw [e]; rfl))⟩
end Go.Proofs.Ytjhmdobmbajcgaa

/- SpoilScheme, SameScheme; the reference's Copy. -/
namespace Go.Proofs.Ytjhmdobmbajcgaa
open Go.RowKit
set_option linter.unusedVariables false
set_option linter.unusedSimpArgs false

set_option maxRecDepth 100000 in
set_option maxHeartbeats 4000000 in
theorem spoilScheme_any (B : Nat) (v1 v2 v3 : Value) (l1 l2 : List Int) (ts : List Ty) (w : World) (hB : B ≤ w.heap.size) (h1 : Hid (OwnI B w v1 l1)) (h2 : Hid (OwnI B w v2 l2)) (h3 : Hid (OwnT B w v3 ts)) (hne : ∀ k, v1.ownBlock = some k → ¬ v2.ownBlock = some k) (hl1 : l1.length ≤ 1099511627776) (hl2 : l2.length ≤ 1099511627776) (hl3 : ts.length ≤ 1099511627776) :
    Calls Try.prog 29 #[.agg #[v1, v2, v3]] w fun e w' => e = .returned (.tuple #[]) ∧ Bar (fun k => v1.ownBlock = some k ∨ v2.ownBlock = some k ∨ v3.ownBlock = some k) w w' := by
  obtain ⟨a1, n1, c1, rfl⟩ := ownI_sl h1.out
  obtain ⟨a2, n2, c2, rfl⟩ := ownI_sl h2.out
  obtain ⟨a3, n3, c3, rfl⟩ := ownT_sl h3.out
  have hne := Lib.hid hne
  go_enter Try.func29, Try.ntmps29
  go_wp2_with fail
  refine (spoilInts_any B _ l1 _ (Lib.hid (h1.out.below (below_alc _ _))) hl1).mono ?_
  rintro e w1 ⟨rfl, hb1⟩
  have hS1 : Hid (ScAt w1 w.heap.size (.slice a1 n1 c1) (.slice a2 n2 c2) (.slice a3 n3 c3)) := Lib.hid (ScAt.bar (by exact sc_lit _ _ _ _ _ _ rfl) hb1 (by intro hk; have := (own_lt h1.out _ hk).2; omega))
  have h21 := Lib.hid (hb1.own (h2.out.below (below_alc _ _)) (fun k hk hk' => hne.out k hk' hk))
  have h31 := Lib.hid (ownT_barI hb1 (h1.out.below (below_alc _ _)) (h3.out.below (below_alc _ _)))
  have hB1 : Hid (Bar (fun k => (Value.slice a1 n1 c1).ownBlock = some k ∨ (Value.slice a2 n2 c2).ownBlock = some k ∨ (Value.slice a3 n3 c3).ownBlock = some k) w w1) := Lib.hid ((Bar.of_below (below_alc w _)).trans hb1 fun k _ hs => .inl hs)
  have hlt2 := Lib.hid fun k hk => (own_lt h2.out k hk).2
  have hs1 := hb1.size
  clear hb1
  obtain ⟨x0, x1, x2, x3⟩ := hS1.out
  go_wp2_with fail
  clear x0 x1 x2 x3
  refine (spoilInts_any B _ l2 _ (Lib.hid h21.out) hl2).mono ?_
  rintro e w2 ⟨rfl, hb2⟩
  have hS2 := Lib.hid (hS1.out.bar hb2 (by intro hk; have := hlt2.out _ hk; omega))
  have h32 := Lib.hid (ownT_barI hb2 h21.out h31.out)
  have hB2 : Hid (Bar (fun k => (Value.slice a1 n1 c1).ownBlock = some k ∨ (Value.slice a2 n2 c2).ownBlock = some k ∨ (Value.slice a3 n3 c3).ownBlock = some k) w w2) := Lib.hid (hB1.out.trans hb2 fun k _ hs => .inr (.inl hs))
  clear hb2 hS1
  obtain ⟨x0, x1, x2, x3⟩ := hS2.out
  go_wp2_with fail
  clear x0 x1 x2 x3
  refine (spoilType_any B _ ts _ (Lib.hid h32.out) hl3).mono ?_
  rintro e w3 ⟨rfl, hb3⟩
  have hB3 : Hid (Bar (fun k => (Value.slice a1 n1 c1).ownBlock = some k ∨ (Value.slice a2 n2 c2).ownBlock = some k ∨ (Value.slice a3 n3 c3).ownBlock = some k) w w3) := Lib.hid (hB2.out.trans hb3 fun k _ hs => .inr (.inr hs))
  clear hb3
  go_wp2_with fail
  go_end0
  exact ⟨rfl, hB3.out⟩
set_option maxRecDepth 100000 in
set_option maxHeartbeats 4000000 in
theorem sameScheme_any (a1 : Option Addr) (n1 c1 : Nat) (a2 : Option Addr) (n2 c2 : Nat) (a3 : Option Addr) (n3 c3 : Nat) (b1 : Option Addr) (m1 d1 : Nat) (b2 : Option Addr) (m2 d2 : Nat) (b3 : Option Addr) (m3 d3 : Nat) (ks ks' ms ms' : List Int) (ts ts' : List Ty) (w : World)
    (h1 : Hid (IsArg w a1 n1 ks)) (h2 : Hid (IsArg w a2 n2 ms)) (h3 : Hid (TyArg w a3 n3 ts)) (g1 : Hid (IsArg w b1 m1 ks')) (g2 : Hid (IsArg w b2 m2 ms')) (g3 : Hid (TyArg w b3 m3 ts')) (hl1 : n1 ≤ 140737488351232) (hl2 : n2 ≤ 140737488351232) (hl3 : n3 ≤ 140737488351232) :
    Calls Try.prog 28 #[.agg #[.slice a1 n1 c1, .slice a2 n2 c2, .slice a3 n3 c3], .agg #[.slice b1 m1 d1, .slice b2 m2 d2, .slice b3 m3 d3]] w fun e w' => e = .returned (.bool (decide (ks = ks') && (decide (ms = ms') && decide (ts = ts')))) ∧ Below w.heap.size w w' := by
  have k1 := Lib.hid fun (W : World) (hb : Below w.heap.size w W) => sameInts_any a1 b1 n1 m1 c1 d1 _ _ W (Lib.hid (h1.out.below hb)) (Lib.hid (g1.out.below hb)) hl1
  have k2 := Lib.hid fun (W : World) (hb : Below w.heap.size w W) => sameInts_any a2 b2 n2 m2 c2 d2 _ _ W (Lib.hid (h2.out.below hb)) (Lib.hid (g2.out.below hb)) hl2
  have k3 := Lib.hid fun (W : World) (hb : Below w.heap.size w W) => sameType_any a3 b3 n3 m3 c3 d3 _ _ W (Lib.hid (h3.out.below hb)) (Lib.hid (g3.out.below hb)) hl3
  generalize decide (ks = ks') = B1 at k1 ⊢
  generalize decide (ms = ms') = B2 at k2 ⊢
  generalize decide (ts = ts') = B3 at k3 ⊢
  clear h1 h2 h3 g1 g2 g3 hl1 hl2 hl3
  go_enter Try.func28, Try.ntmps28
  go_wp2_with fail
  refine (k1.out _ (below_alc2 w _ _)).mono ?_
  rintro e w1 ⟨rfl, hb1⟩
  have hS1 : Hid (ScAt w1 w.heap.size (.slice a1 n1 c1) (.slice a2 n2 c2) (.slice a3 n3 c3)) := Lib.hid (ScAt.below (by exact ScAt.alloc _ (sc_lit _ _ _ _ _ _ rfl)) hb1)
  have hT1 : Hid (ScAt w1 (w.heap.size + 1) (.slice b1 m1 d1) (.slice b2 m2 d2) (.slice b3 m3 d3)) := Lib.hid (ScAt.below (by exact sc_lit _ _ _ _ _ _ (by simp)) hb1)
  have hB1 := Lib.hid (belT (below_alc2 w _ _) hb1)
  clear hb1 k1
  obtain ⟨x0, x1, x2, x3⟩ := hS1.out
  obtain ⟨y0, y1, y2, y3⟩ := hT1.out
  cases B1
  · go_wp2_with fail
    go_ret
    exact ⟨rfl, hB1.out⟩
  go_wp2_with fail
  refine (k2.out _ hB1.out).mono ?_
  rintro e w2 ⟨rfl, hb2⟩
  clear x0 x1 x2 x3 y0 y1 y2 y3
  obtain ⟨x0, x1, x2, x3⟩ := hS1.out.below hb2
  obtain ⟨y0, y1, y2, y3⟩ := hT1.out.below hb2
  have hB2 := Lib.hid (belT hB1.out hb2)
  clear hb2 k2 hB1 hS1 hT1
  cases B2
  · go_wp2_with fail
    go_ret
    exact ⟨rfl, hB2.out⟩
  go_wp2_with fail
  refine (k3.out _ hB2.out).mono ?_
  rintro e w3 ⟨rfl, hb3⟩
  have hB3 := Lib.hid (belT hB2.out hb3)
  clear hb3 k3 hB2 x0 x1 x2 x3 y0 y1 y2 y3
  go_wp2_with fail
  go_ret
  exact ⟨by cases B3 <;> rfl, hB3.out⟩
set_option maxRecDepth 100000 in
set_option maxHeartbeats 4000000 in
theorem rcopy_any (a : Option Addr) (n cp : Nat) (l : List Ty) (w : World) (h : Hid (TyArg w a n l)) (hne : l ≠ []) (hl : l.length * 72 ≤ 140737488351232) :
    Calls Try.prog 60 #[.agg #[.slice a n cp]] w fun e w' => ∃ v, e = .returned (.agg #[v]) ∧ OwnT w.heap.size w' v l ∧ Below w.heap.size w w' := by
  obtain ⟨rfl, hA⟩ := h.out
  obtain ⟨g, off, rfl, hS, hg⟩ := Or.resolve_left hA hne
  clear hA hne
  have hS := Lib.hid hS
  obtain ⟨i0, hi, hz0, hz1, hz2⟩ := info_parts infoTy
  have hown0 := Lib.hid (OwnT.fresh ((w.alloc (.cells #[.slice (some ⟨g, off, none⟩) l.length cp] 25)).alloc (.cells #[.slice none 0 0] 25)))
  have hX : Hid (BoxAt ((w.alloc (.cells #[.slice (some ⟨g, off, none⟩) l.length cp] 25)).alloc (.cells #[.slice none 0 0] 25)) (w.heap.size + 1) (.slice none 0 0) ∧ ((w.alloc (.cells #[.slice (some ⟨g, off, none⟩) l.length cp] 25)).alloc (.cells #[.slice none 0 0] 25)).frozen? ⟨w.heap.size + 1, 0, none⟩ = false) := Lib.hid ⟨box_lit _ _ _ _ (by simp), by simp [go_sem]⟩
  have hB0 := Lib.hid (below_alc2 w (.cells #[.slice (some ⟨g, off, none⟩) l.length cp] 25) (.cells #[.slice none 0 0] 25))
  have hnews : Hid (∀ j u, (tyL l)[j]? = some u → ((((w.alloc (.cells #[.slice (some ⟨g, off, none⟩) l.length cp] 25)).alloc (.cells #[.slice none 0 0] 25))).alloc (.cells #[] 47)).cell? ((⟨g, off, none⟩ : Addr).add j) = some u) := Lib.hid (by
    intro j u hj
    have e : (⟨g, off, none⟩ : Addr).add j = ⟨g, off + j, none⟩ := by simp [Addr.add]; try omega
    rw [e]
    exact tySl_get (hS.out.below (belA (.cells #[] 47) hB0.out) hg) j u hj)
  have hY : Hid (BoxAt ((w.alloc (.cells #[.slice (some ⟨g, off, none⟩) l.length cp] 25)).alloc (.cells #[.slice none 0 0] 25)) w.heap.size (.slice (some ⟨g, off, none⟩) l.length cp)) := Lib.hid (by exact BoxAt.alloc _ (box_lit _ _ _ _ rfl))
  go_enter Try.func60, Try.ntmps60
  go_upto_region 1 with fail
  have hsz0 : ((w.alloc (.cells #[.slice (some ⟨g, off, none⟩) l.length cp] 25)).alloc (.cells #[.slice none 0 0] 25)).heap.size = w.heap.size + 2 := by simp
  have hsz0 := Lib.hid hsz0
  obtain ⟨W0, hW0e⟩ : ∃ W, ((w.alloc (.cells #[.slice (some ⟨g, off, none⟩) l.length cp] 25)).alloc (.cells #[.slice none 0 0] 25)) = W := ⟨_, rfl⟩
  rw [hW0e] at hX hY hown0 hnews hB0 hsz0 ⊢
  clear hW0e
  have z0 : w.heap.size + 1 < W0.heap.size := by have := hsz0.out; omega
  have z1 : w.heap.size + 1 < W0.heap.size + 1 := by omega
  have z2 : w.heap.size < W0.heap.size := by omega
  have z3 : w.heap.size < W0.heap.size + 1 := by omega
  obtain ⟨y0, y1⟩ := hY.out
  go_wp2_with (at_builtin; refine wpList_append_own _ rfl (.tmp 3) (.tmp 5) 23 rfl W0.heap.size 47 i0 (.agg #[.int .i64 0, .int .i64 0, .int .i64 0, .int .i64 0, .int .i64 0, .int .i64 0, .int .i64 0, .int .i64 0, .int .i64 0]) 9 72 Try.underlying23 hi hz0 hz1 hz2 rfl (by decide) _ 0 [] rfl hown0.out ⟨g, off, none⟩ l.length cp (tyL l) rfl (tyL_len l) hnews.out (tyL_one l) (by unfold maxLen; omega) (by omega) (by simp) ?_)
  intro v' w1 hown1 hgr _
  (try rw [Nat.zero_add, List.nil_append] at hown1)
  have hown1' := Lib.hid (show OwnT W0.heap.size w1 v' l from hown1)
  have hbel : Hid (Below W0.heap.size W0 w1) := Lib.hid (((Below.refl _ _).alloc (Nat.le_refl _) _).grown hgr (by simp) (by intro k hk; simp [Value.ownBlock] at hk; omega))
  obtain ⟨va, vn, vc, rfl⟩ := ownT_sl hown1'.out
  have q0 : w1.cell? ⟨w.heap.size + 1, 0, none⟩ = some (.slice none 0 0) := carry hbel.out z0 hX.out.1.2
  have q1 : w1.frozen? ⟨w.heap.size + 1, 0, none⟩ = false := (hbel.out.frozen (p := ⟨w.heap.size + 1, 0, none⟩) z0).trans hX.out.2
  have q2 : w.heap.size + 1 < w1.heap.size := by have := hbel.out.size; omega
  have hB1 : Hid (Below w.heap.size w w1) := Lib.hid (hB0.out.trans (hbel.out.mono (by omega)))
  clear hown1 hgr hbel hnews hown0 hX hB0
  go_wp2_with fail
  exact bodyPost_ret (v := .agg #[.slice va vn vc]) (by simp [results, Try.results60, go_sem, q1, setS q0]) rfl ⟨_, rfl, ownT_le (ownT_put hown1'.out (by omega)) (by omega), hB1.out.setCell (by show w.heap.size ≤ w.heap.size + 1; omega) _⟩
end Go.Proofs.Ytjhmdobmbajcgaa

/- The reference's Close. -/
namespace Go.Proofs.Ytjhmdobmbajcgaa
open Go.RowKit
set_option linter.unusedVariables false
set_option linter.unusedSimpArgs false

set_option maxRecDepth 100000 in
set_option maxHeartbeats 8000000 in
theorem rclose_any (a a2 a3 : Option Addr) (n c n2 c2 n3 c3 : Nat) (ts : List Ty) (ks ms : List Int) (w : World) (h : Hid (TyArg w a n ts)) (h2 : Hid (IsArg w a2 n2 ks)) (h3 : Hid (IsArg w a3 n3 ms)) (hl : n ≤ 140737488351232) (hl2 : n2 ≤ 140737488351232) (hl3 : n3 ≤ 140737488351232) :
    Calls Try.prog 25 #[.agg #[.slice a n c], .slice a2 n2 c2, .slice a3 n3 c3] w (CloPost ts ks ms w) := by
  have kM := Lib.hid fun (W : World) (hb : Below w.heap.size w W) => rTyMay_any a n c ts W (Lib.hid (h.out.below hb)) hl
  have hX := Lib.hid (show BoxAt ((w.alloc (.cells #[.slice a n c] 25)).alloc (.cells #[.slice none 0 0, .slice none 0 0, .slice none 0 0] 56)) w.heap.size (.slice a n c) from BoxAt.alloc _ (box_lit _ _ _ _ rfl))
  have hTr := Lib.hid (tri_mk w (.cells #[.slice a n c] 25))
  unfold CloPost
  cases htv : tyV ts
  · rw [htv] at kM
    clear htv
    simp only [Bool.false_eq_true, if_false]
    go_enter Try.func25, Try.ntmps25
    go_wp2_with fail
    refine (kM.out _ (below_alc2 w _ _)).mono ?_
    rintro e w1 ⟨rfl, hb1⟩
    obtain ⟨⟨q0, q1, q2⟩, f0, f1, f2, hz⟩ := hTr.out.below hb1
    have hB := Lib.hid (belT (below_alc2 w _ _) hb1)
    clear hb1
    go_wp2_with fail
    exact bodyPost_ret (v := .tuple #[.agg #[.slice none 0 0, .slice none 0 0, .slice none 0 0], .int .i64 1200]) (by simp [results, Try.results25, go_sem, *]) rfl ⟨rfl, by have := hB.out; (repeat' (first | with_reducible exact Below.refl _ _ | with_reducible assumption | with_reducible apply Below.setCell | with_reducible apply Below.alloc | with_reducible apply Below.drew | with_reducible apply below_drewN | with_reducible exact Nat.le_refl _ | (simp; done) | (simp; omega) | omega | exact Nat.le_refl _))⟩
  · rw [htv] at kM
    have kV := Lib.hid fun (W : World) (hb : Below w.heap.size w W) => varsOf_any a n c ts W (Lib.hid (h.out.below hb)) htv
    unfold VoPost at kV
    have hle := tyV_le htv
    have hto := tyV_of htv
    have t1 := tvs_len (treeOf ts) []
    have t2 := rvs_len (treeOf ts) []
    simp only [List.length_nil] at t1 t2
    simp only [if_true]
    obtain ⟨L1, hL1⟩ : ∃ l, tvs (treeOf ts) [] = l := ⟨_, rfl⟩
    obtain ⟨L2, hL2⟩ : ∃ l, rvs (treeOf ts) [] = l := ⟨_, rfl⟩
    rw [hL1, hL2] at kV ⊢
    rw [hL1] at t1
    rw [hL2] at t2
    have hnn := h.out.1
    have hn72 : n * 72 ≤ 140737488351232 := by omega
    have hnil : ts ≠ [] := by rintro rfl; simp at hle
    have kT := Lib.hid fun (W : World) (hb : Below w.heap.size w W) => rcopy_any a n c ts W (Lib.hid (h.out.below hb)) hnil (by omega)
    have hb256 : L1.length ≤ 256 ∧ L2.length ≤ 256 := by omega
    have hb256 := Lib.hid hb256
    clear htv hL1 hL2 hto hle t1 t2 hnn
    go_enter Try.func25, Try.ntmps25
    go_wp2_with fail
    refine (kM.out _ (below_alc2 w _ _)).mono ?_
    rintro e w0 ⟨rfl, hb0⟩
    have hTr0 := Lib.hid (hTr.out.below hb0)
    have hX0 := Lib.hid (hX.out.below hb0)
    have hB0 := Lib.hid (belT (below_alc2 w _ _) hb0)
    clear hb0 kM
    obtain ⟨p0, p1⟩ := hX0.out
    go_wp2_with fail
    clear p0 p1
    refine (kV.out _ hB0.out).mono ?_
    rintro e w1 ⟨u1, u2, rfl, hu1, hu2, hne, hb1⟩
    obtain ⟨x1, m1, d1, rfl⟩ := ownI_sl hu1
    obtain ⟨x2, m2, d2, rfl⟩ := ownI_sl hu2
    have hTr1 := Lib.hid (hTr0.out.below hb1)
    have hst := Lib.hid (show w1.cell? ⟨w.heap.size, 0, none⟩ = some (.slice a n c) ∧ CloS w (.slice x1 m1 d1) (.slice x2 m2 d2) L1 L2 w1 from ⟨(hX0.out.below hb1).2, belT hB0.out hb1, hu1.le (by have := hTr0.out.2.2.2.2; omega), hu2.le (by have := hTr0.out.2.2.2.2; omega), hTr1.out.2.2.2.2⟩)
    have hm1 : m1 ≤ 256 := by have := hu1.arg.1; have := hb256.out; omega
    have hm2 : m2 ≤ 256 := by have := hu2.arg.1; have := hb256.out; omega
    have kW1 := Lib.hid fun (W : World) (hW : CloS w (.slice x1 m1 d1) (.slice x2 m2 d2) L1 L2 W) => rwithout_any x1 a2 m1 d1 n2 c2 L1 ks W (Lib.hid hW.2.1.arg) (Lib.hid (h2.out.below hW.1)) (by omega) hl2
    have kW2 := Lib.hid fun (W : World) (hW : CloS w (.slice x1 m1 d1) (.slice x2 m2 d2) L1 L2 W) => rwithout_any x2 a3 m2 d2 n3 c3 L2 ms W (Lib.hid hW.2.2.1.arg) (Lib.hid (h3.out.below hW.1)) (by omega) hl3
    have kT2 := Lib.hid fun (W : World) (hW : CloS w (.slice x1 m1 d1) (.slice x2 m2 d2) L1 L2 W) => kT.out W hW.1
    clear hb1 hu1 hu2 hne kV kT hX hTr
    go_upto_region 4 with fail
    go_region_held3 (fun W => W.cell? ⟨w.heap.size, 0, none⟩ = some (.slice a n c) ∧ CloS w (.slice x1 m1 d1) (.slice x2 m2 d2) L1 L2 W)
      (repeat (first | with_reducible exact hS10.out | with_reducible exact hS9.out | with_reducible exact hS8.out | with_reducible exact hst.out | with_reducible refine CloS.go ?_ ((Below.refl _ _).drew) | with_reducible refine CloS.set ?_))
      ((first
        | (go_at_call 59; have hh := hS8; clear hh; refine (kW2.out _ (And.right (by assumption))).mono ?_; rintro e w9 ⟨v9, rfl, hv9, hb9⟩; have hS9 := Lib.hid (CloS.go (by assumption) hb9); obtain ⟨x9, m9, d9, rfl⟩ := ownI_sl hv9)
        | (go_at_call 59; refine (kW1.out _ (And.right (by assumption))).mono ?_; rintro e w8 ⟨v8, rfl, hv8, hb8⟩; have hS8 := Lib.hid (CloS.go (by assumption) hb8); obtain ⟨x8, m8, d8, rfl⟩ := ownI_sl hv8)
        | (go_at_call 60; refine (kT2.out _ (And.right (by assumption))).mono ?_; rintro e w10 ⟨v10, rfl, hv10, hb10⟩; have hS10 := Lib.hid (CloS.go (by assumption) hb10); obtain ⟨x10, m10, d10, rfl⟩ := ownT_sl hv10; have hTr8 : Tri w w8 := (by first | exact Tri.below (Tri.below hTr1.out ((Below.refl _ _).drew)) hb8 | exact Tri.below hTr1.out hb8); have hTr9 : Tri w w9 := (by first | exact Tri.below hTr8 hb9 | exact Tri.below (Tri.below hTr8 ((Below.refl _ _).drew)) hb9); have hTr4 : Tri w w10 := (by first | exact Tri.below hTr9 hb10 | exact Tri.below (Tri.below hTr9 ((Below.refl _ _).drew)) hb10); obtain ⟨⟨q0, q1, q2⟩, f0, f1, f2, hz⟩ := hTr4)))
    go_wp2_with fail
    have hsz : w.heap.size + 1 < w1.drew.heap.size := hTr1.out.2.2.2.2
    have s8 : w1.drew.heap.size ≤ w8.heap.size := hb8.size
    have s9 : w8.heap.size ≤ w9.heap.size := hb9.size
    have hB10 := hS10.out.2.1
    have hfin : ∀ W, W = (((w10.setCell ⟨w.heap.size + 1, 0, none⟩ (.slice x8 m8 d8)).setCell ⟨w.heap.size + 1, 1, none⟩ (.slice x9 m9 d9)).setCell ⟨w.heap.size + 1, 2, none⟩ (.slice x10 m10 d10)) → ∃ v1 v2 v3, (Ending.returned (.tuple #[.agg #[.slice x8 m8 d8, .slice x9 m9 d9, .slice x10 m10 d10], .int .i64 0])) = .returned (.tuple #[.agg #[v1, v2, v3], .int .i64 0]) ∧ OwnI w.heap.size W v1 (woI L1 ks) ∧ OwnI w.heap.size W v2 (woI L2 ms) ∧ OwnT w.heap.size W v3 ts ∧ (∀ k, v1.ownBlock = some k → ¬ v2.ownBlock = some k) ∧ Below w.heap.size w W := by
      rintro W rfl
      refine ⟨_, _, _, rfl, OwnI.le (ownI_put (ownI_put (ownI_put ((hv8.below hb9).below hb10) hsz) hsz) hsz) (by omega), OwnI.le (ownI_put (ownI_put (ownI_put (hv9.below hb10) (by omega)) (by omega)) (by omega)) (by omega), ownT_le (ownT_put (ownT_put (ownT_put hv10 (by omega)) (by omega)) (by omega)) (by omega), fun k hk hk' => ?_, by have := hB10; (repeat' (first | with_reducible exact Below.refl _ _ | with_reducible assumption | with_reducible apply Below.setCell | with_reducible apply Below.alloc | with_reducible apply Below.drew | with_reducible apply below_drewN | with_reducible exact Nat.le_refl _ | (simp; done) | (simp; omega) | omega | exact Nat.le_refl _))⟩
      have h1 := (own_lt hv8 k hk).2
      have h2 := (own_lt hv9 k hk').1
      omega
    exact bodyPost_ret (v := .tuple #[.agg #[.slice x8 m8 d8, .slice x9 m9 d9, .slice x10 m10 d10], .int .i64 0]) (by simp [results, Try.results25, go_sem, q0, q1, q2, hz]) rfl (hfin _ rfl)
end Go.Proofs.Ytjhmdobmbajcgaa

/- The reference's varsMay. -/
namespace Go.Proofs.Ytjhmdobmbajcgaa
open Go.RowKit
set_option linter.unusedVariables false
set_option linter.unusedSimpArgs false

theorem pig : ∀ (N : Nat) (l : List Int), l.Nodup → (∀ x ∈ l, 0 ≤ x ∧ x < (N : Int)) → l.length ≤ N
  | 0, l, _, h => by
    cases l with
    | nil => simp
    | cons x l => have := h x (by simp); omega
  | N + 1, l, hn, h => by
    by_cases hm : (N : Int) ∈ l
    · have h1 := pig N (l.erase (N : Int)) (hn.erase _) (fun x hx => by
        have h1 := (List.Nodup.mem_erase_iff hn).1 hx
        have h2 := h x h1.2
        have h3 := h1.1
        omega)
      rw [List.length_erase_of_mem hm] at h1
      omega
    · have h1 := pig N l hn (fun x hx => by
        have h2 := h x hx
        have h3 : x ≠ (N : Int) := fun e => hm (e ▸ hx)
        omega)
      omega
theorem dsR_full {l : List Int} {j : Nat} (hj : ¬ j < l.length) (h : dsR l j) : dsI l = true := by
  refine dsR_end hj ?_ h
  obtain ⟨h1, h2⟩ := h
  rw [List.take_of_length_le (by omega)] at h1 h2
  refine pig 4096 l h2 (fun x hx => ?_)
  have := of_decide_eq_true (List.all_eq_true.1 h1 x hx)
  omega
theorem isArg_take {w : World} {b off j : Nat} {l : List Int} (hs : IsSl w b off l) (hb : b < w.heap.size) (hj : j ≤ l.length) : IsArg w (some ⟨b, off, none⟩) j (l.take j) := by
  refine ⟨by rw [List.length_take]; omega, .inr ⟨b, off, rfl, fun i hi => ?_, hb⟩⟩
  rw [List.length_take] at hi
  rw [hs i (by omega), List.getD_eq_getElem?_getD, List.getD_eq_getElem?_getD, List.getElem?_take_of_lt (by omega)]
set_option maxRecDepth 100000 in
set_option maxHeartbeats 4000000 in
theorem varsMay_any (a : Option Addr) (n c : Nat) (l : List Int) (w : World) (h : Hid (IsArg w a n l)) (hl : n ≤ 140737488351232) (hcap : n ≤ c) :
    Calls Try.prog 63 #[.slice a n c] w fun e w' => e = .returned (.bool (dsI l)) ∧ Below w.heap.size w w' := by
  obtain ⟨rfl, hA⟩ := h.out
  go_enter Try.func63, Try.ntmps63
  go_wp2_with fail
  go_loopw [3] (fun i wr => ∃ j : Nat, j ≤ l.length ∧ i = .int .i64 j ∧ Hid (dsR l j ∧ Below w.heap.size w wr)) (fun i _ => l.length - (intOf i).toNat)
  case atStart => exact ⟨0, by omega, rfl, Lib.hid ⟨⟨rfl, by simp⟩, Below.refl _ _⟩⟩
  case round =>
    obtain ⟨j, hj, rfl, hI⟩ := hrel
    by_cases hlt : j < l.length
    · obtain ⟨b, off, rfl, hs, hb⟩ := isArg_at hA hlt
      have hbw := hI.out.2
      have hs' := hs.below hbw hb
      have hc := hs' j hlt
      have hbr : b < wr.heap.size := by have := hbw.size; omega
      have hsH := Lib.hid hs'
      have kH := Lib.hid fun (m d : Nat) (x : Int) => rhas_any (some ⟨b, off, none⟩) j d (l.take j) x (wr.drewN m) (Lib.hid ((isArg_take hsH.out hbr hj).below (below_drewN (Below.refl _ _) m))) (by omega)
      have hout := Lib.hid fun hq => dsI_out (l := l) hlt hq
      have htw := Lib.hid fun hq => dsI_twice (l := l) hlt hq
      have hnx := Lib.hid fun hq hq2 => dsR_next (l := l) hlt hI.out.1 hq hq2
      have hB := Lib.hid hbw
      generalize l.getD j 0 = x at hc hout htw hnx
      have hlt' : (j : Int) < (l.length : Int) := by omega
      have hj0 : (0 : Int) ≤ (j : Int) := by omega
      have hjc : (j : Int) ≤ (c : Int) := by omega
      have hjc' : j ≤ c := by omega
      clear hs hs' hA hbw hI
      by_cases hx0 : x < 0
      · have hd0 : decide (x < 0) = true := decide_eq_true hx0
        have hfin := Lib.hid (hout.out (by unfold inV; exact decide_eq_false (by omega)))
        clear hout htw hnx kH
        go_wp2_with fail
        go_quiet (fail)
        go_wp2_with fail
        go_ret
        exact ⟨ret_bb hfin.out.symm, below_drewN hB.out _⟩
      · have hd0 : decide (x < 0) = false := decide_eq_false hx0
        by_cases hx1 : x ≥ 4096
        · have hd1 : decide (x ≥ 4096) = true := decide_eq_true hx1
          have hd1' : decide (4096 ≤ x) = true := decide_eq_true hx1
          have hfin := Lib.hid (hout.out (by unfold inV; exact decide_eq_false (by omega)))
          clear hout htw hnx kH
          go_wp2_with fail
          go_quiet (fail)
          go_wp2_with fail
          go_ret
          exact ⟨ret_bb hfin.out.symm, below_drewN hB.out _⟩
        · have hd1 : decide (x ≥ 4096) = false := decide_eq_false hx1
          have hd1' : decide (4096 ≤ x) = false := decide_eq_false hx1
          have hin : Hid (inV x = true) := Lib.hid (by unfold inV; exact decide_eq_true (by omega))
          cases hq : hasI (l.take j) x
          · have kH2 := Lib.hid fun (m d : Nat) => kH.out m d x
            rw [hq] at kH2
            have hfin := Lib.hid (hnx.out hin.out hq)
            clear hout htw hnx kH hq
            go_wp2_with fail
            go_quiet ((go_at_call 83; exact Calls.quiet_of_same (kH2.out _ _)))
            go_wp2_with fail
            go_roundw
            case rel => exact ⟨j + 1, by omega, by go_num, Lib.hid ⟨hfin.out, below_drewN hB.out _⟩⟩
            case measure => simp [intOf]; omega
          · have kH2 := Lib.hid fun (m d : Nat) => kH.out m d x
            rw [hq] at kH2
            have hfin := Lib.hid (htw.out hq)
            clear hout htw hnx kH hq
            go_wp2_with fail
            go_quiet ((go_at_call 83; exact Calls.quiet_of_same (kH2.out _ _)))
            go_wp2_with fail
            go_ret
            exact ⟨ret_bb hfin.out.symm, below_drewN hB.out _⟩
    · have hfin := Lib.hid (dsR_full hlt hI.out.1)
      have hB := Lib.hid hI.out.2
      go_wp2_with fail
      go_ret
      exact ⟨ret_bb hfin.out.symm, hB.out⟩
end Go.Proofs.Ytjhmdobmbajcgaa

/- The reference's Take. -/
namespace Go.Proofs.Ytjhmdobmbajcgaa
open Go.RowKit
set_option linter.unusedVariables false
set_option linter.unusedSimpArgs false

theorem step_bn {ops : Array Oper} {o : Oper} {a : Act} {K : Act → World → Prop} {Q : Exit → Act → World → Prop} {E : Prop} (hgd : o.guard = none) (s x : Operand) (W : World) (B : Nat) (hB : B ≤ W.heap.size) (ov : Value) (l ys : List Bn) (arr : Array Value)
    (ho : o.op = .call { callee := .builtin .append, args := #[s, x], argTypes := #[22, 22] })
    (hs : a.eval s = ov) (m : Nat) (hm : m = ys.length) (hx : a.eval x = .slice (some ⟨W.heap.size, 0, none⟩) m m) (harr : arr.toList = bnL ys) (hown : OwnB B W ov l) (hlen : (l.length + ys.length) * 80 ≤ 140737488355328)
    (h : ∀ v' w', OwnB B w' v' (l ++ ys) → Below B W w' → K (a.put o.dst v') w') :
    if Region.wanted o (yielded ops a.tmps) = true then Oper.wp Try.prog o a (W.alloc (.cells arr 49)) K Q else E := by
  subst hm
  have hw : Region.wanted o (yielded ops a.tmps) = true := by simp [Region.wanted, hgd]
  rw [if_pos hw]
  obtain ⟨i0, hi, hz0, hz1, hz2⟩ := info_parts infoB
  obtain ⟨v', w', hrun, r1, hgr, _⟩ := run_append_own (P := Try.prog) (W.alloc (.cells arr 49)) B 22 o.type 49 i0 _ 8 80 Try.underlying22 hi hz0 hz1 hz2 rfl (by decide) ov l.length (bnL l) (World.ownsRow.alloc hown _) ⟨W.heap.size, 0, none⟩ ys.length ys.length (bnL ys) (bnL_len ys) (by
    intro j u hj
    have e : (⟨W.heap.size, 0, none⟩ : Addr).add j = ⟨W.heap.size, j, none⟩ := by simp [Addr.add]; try omega
    rw [e, World.cell?_alloc_at _ _ _ _ rfl, ← hj, ← harr, Array.getElem?_toList]) (bnL_one ys) (by unfold maxLen; omega) (by omega) (by simp; omega)
  unfold Oper.wp
  simp [execOp, ho, resolve, invoke, builtin, hs, hx, hrun, Result.andThen]
  refine h v' w' (by unfold OwnB; rw [bnL_app, List.length_append]; exact r1) ?_
  have hsz := hgr.size
  simp at hsz
  refine ⟨hgr.os, hgr.tape, hgr.output, by omega, fun k hk => ?_⟩
  rw [hgr.block k (by simp; omega) ?_]
  · exact Below.heap_alloc W _ k (by omega)
  · intro e
    rcases hown.2 with ⟨rfl, _⟩ | ⟨g, cap, cur, rfl, hg, _⟩
    · simp [Value.ownBlock] at e
    · simp [Value.ownBlock] at e; omega
theorem s3_go {B : Nat} {wr W W' : World} {p q r : Addr} {v1 v2 v3 : Value} (hp : p.block < B) (hq : q.block < B) (hr : r.block < B) (h : W.cell? p = some v1 ∧ W.cell? q = some v2 ∧ W.cell? r = some v3 ∧ Below B wr W) (hb : Below B W W') : W'.cell? p = some v1 ∧ W'.cell? q = some v2 ∧ W'.cell? r = some v3 ∧ Below B wr W' :=
  ⟨(hb.cell hp).trans h.1, (hb.cell hq).trans h.2.1, (hb.cell hr).trans h.2.2.1, h.2.2.2.trans hb⟩
theorem s3_alc {B : Nat} {wr W : World} {p q r : Addr} {v1 v2 v3 : Value} {o : Obj} (hp : p.block < B) (hq : q.block < B) (hr : r.block < B) (hw : B ≤ wr.heap.size) (h : W.cell? p = some v1 ∧ W.cell? q = some v2 ∧ W.cell? r = some v3 ∧ Below B wr W) : (W.alloc o).cell? p = some v1 ∧ (W.alloc o).cell? q = some v2 ∧ (W.alloc o).cell? r = some v3 ∧ Below B wr (W.alloc o) :=
  s3_go hp hq hr h ((below_alc W o).mono (Nat.le_trans hw h.2.2.2.size))
theorem s7_go {B g b c o o' : Nat} {wr W W' : World} {v1 v2 r0 r1 r2 r3 r4 : Value} (hp : g < B) (hq : b < B) (hr : c < B) (h : W.cell? ⟨g, 1, none⟩ = some v1 ∧ W.cell? ⟨b, o, none⟩ = some v2 ∧ W.cell? ⟨c, o', none⟩ = some r0 ∧ W.cell? ⟨c, o' + 1, none⟩ = some r1 ∧ W.cell? ⟨c, o' + 2, none⟩ = some r2 ∧ W.cell? ⟨c, o' + 3, none⟩ = some r3 ∧ W.cell? ⟨c, o' + 4, none⟩ = some r4 ∧ Below B wr W) (hb : Below B W W') : W'.cell? ⟨g, 1, none⟩ = some v1 ∧ W'.cell? ⟨b, o, none⟩ = some v2 ∧ W'.cell? ⟨c, o', none⟩ = some r0 ∧ W'.cell? ⟨c, o' + 1, none⟩ = some r1 ∧ W'.cell? ⟨c, o' + 2, none⟩ = some r2 ∧ W'.cell? ⟨c, o' + 3, none⟩ = some r3 ∧ W'.cell? ⟨c, o' + 4, none⟩ = some r4 ∧ Below B wr W' := by
  obtain ⟨h1, h2, h3, h4, h5, h6, h7, h8⟩ := h
  exact ⟨(hb.cell (p := ⟨g, 1, none⟩) hp).trans h1, (hb.cell (p := ⟨b, o, none⟩) hq).trans h2, (hb.cell (p := ⟨c, o', none⟩) hr).trans h3, (hb.cell (p := ⟨c, o' + 1, none⟩) hr).trans h4, (hb.cell (p := ⟨c, o' + 2, none⟩) hr).trans h5, (hb.cell (p := ⟨c, o' + 3, none⟩) hr).trans h6, (hb.cell (p := ⟨c, o' + 4, none⟩) hr).trans h7, h8.trans hb⟩
theorem s7_alc {B g b c o o' : Nat} {wr W : World} {v1 v2 r0 r1 r2 r3 r4 : Value} {ob : Obj} (hp : g < B) (hq : b < B) (hr : c < B) (hw : B ≤ wr.heap.size) (h : W.cell? ⟨g, 1, none⟩ = some v1 ∧ W.cell? ⟨b, o, none⟩ = some v2 ∧ W.cell? ⟨c, o', none⟩ = some r0 ∧ W.cell? ⟨c, o' + 1, none⟩ = some r1 ∧ W.cell? ⟨c, o' + 2, none⟩ = some r2 ∧ W.cell? ⟨c, o' + 3, none⟩ = some r3 ∧ W.cell? ⟨c, o' + 4, none⟩ = some r4 ∧ Below B wr W) : (W.alloc ob).cell? ⟨g, 1, none⟩ = some v1 ∧ (W.alloc ob).cell? ⟨b, o, none⟩ = some v2 ∧ (W.alloc ob).cell? ⟨c, o', none⟩ = some r0 ∧ (W.alloc ob).cell? ⟨c, o' + 1, none⟩ = some r1 ∧ (W.alloc ob).cell? ⟨c, o' + 2, none⟩ = some r2 ∧ (W.alloc ob).cell? ⟨c, o' + 3, none⟩ = some r3 ∧ (W.alloc ob).cell? ⟨c, o' + 4, none⟩ = some r4 ∧ Below B wr (W.alloc ob) :=
  s7_go hp hq hr h ((below_alc W ob).mono (Nat.le_trans hw h.2.2.2.2.2.2.2.size))
set_option maxRecDepth 100000 in
set_option maxHeartbeats 8000000 in
theorem rtake_any (a1 : Option Addr) (n1 c1 : Nat) (a2 : Option Addr) (n2 c2 : Nat) (a3 : Option Addr) (n3 c3 : Nat) (a4 : Option Addr) (n4 c4 : Nat) (a5 : Option Addr) (n5 c5 : Nat) (ks ms : List Int) (ts : List Ty) (xs : List Tp) (rs : List Rw) (w : World)
    (h1 : Hid (IsArg w a1 n1 ks)) (h2 : Hid (IsArg w a2 n2 ms)) (h3 : Hid (TyArg w a3 n3 ts)) (h4 : Hid (TpArg w a4 n4 xs)) (h5 : Hid (RwArg w a5 n5 rs))
    (hl1 : n1 ≤ 140737488351232) (hl2 : n2 ≤ 140737488351232) (hl3 : n3 ≤ 140737488351232) (hl4 : n4 ≤ 140737488351232) (hl5 : n5 ≤ 140737488351232) (hc1 : n1 ≤ c1) (hc2 : n2 ≤ c2) :
    Calls Try.prog 27 #[.agg #[.slice a1 n1 c1, .slice a2 n2 c2, .slice a3 n3 c3], .slice a4 n4 c4, .slice a5 n5 c5] w (TkPost ks xs ms rs ts w) := by
  have kM := Lib.hid fun (W : World) (hb : Below w.heap.size w W) => rTyMay_any a3 n3 c3 ts W (Lib.hid (h3.out.below hb)) hl3
  have kD1 := Lib.hid fun (W : World) (hb : Below w.heap.size w W) => varsMay_any a1 n1 c1 ks W (Lib.hid (h1.out.below hb)) hl1 hc1
  have kD2 := Lib.hid fun (W : World) (hb : Below w.heap.size w W) => varsMay_any a2 n2 c2 ms W (Lib.hid (h2.out.below hb)) hl2 hc2
  have hW0 := Lib.hid (tkW_mk w a1 n1 c1 a2 n2 c2 a3 n3 c3 56 25)
  have hn1 := Lib.hid h1.out.1; have hn2 := Lib.hid h2.out.1; have hn4 := Lib.hid h4.out.1; have hn5 := Lib.hid h5.out.1
  have hno := Lib.hid fun (h : NoTk ks xs ms rs ts) (W : World) (hW : Below w.heap.size w W) => (show TkPost ks xs ms rs ts w (.returned (.tuple #[.agg #[.slice none 0 0], .int .i64 1200])) W from ⟨.slice none 0 0, by rw [(noTk h).2], by rw [(noTk h).1]; exact OwnT.nil _ _, hW⟩)
  have hyes := Lib.hid fun (hk : tkOk ks xs ms rs = true) (W : World) (v : Value) (hz : subE (tkB ks xs ms rs) ts = 0) (hv : OwnT w.heap.size W v (subT (tkB ks xs ms rs) ts)) (hW : Below w.heap.size w W) => (show TkPost ks xs ms rs ts w (.returned (.tuple #[.agg #[v], .int .i64 0])) W from
    ⟨v, by unfold tkE; rw [hk, decide_eq_true hz]; rfl, by unfold tkT; rw [hk]; exact hv, hW⟩)
  clear hc1 hc2
  go_enter Try.func27, Try.ntmps27
  go_wp2_with fail
  refine (kM.out _ (below_alc2 w _ _)).mono ?_
  rintro e w0 ⟨rfl, hb0⟩
  have hW0 := Lib.hid (hW0.out.below hb0)
  clear hb0 kM
  obtain ⟨x0, x1, x2, x3, x4, x5, x6⟩ := hW0.out
  cases hty : tyV ts
  · have hbad := Lib.hid (hno.out (noTk_b (.inr hty)))
    clear hty hno hyes
    go_wp2_with fail
    exact bodyPost_ret (v := .tuple #[.agg #[.slice none 0 0], .int .i64 1200]) (by simp [results, Try.results27, go_sem, x4, x0, setS x4, x5]) rfl (hbad.out _ (by (repeat' (first | with_reducible exact Below.refl _ _ | with_reducible assumption | with_reducible apply Below.setCell | with_reducible apply Below.alloc | with_reducible apply Below.drew | with_reducible apply below_drewN | with_reducible exact Nat.le_refl _ | (simp; done) | (simp; omega) | omega | exact Nat.le_refl _))))
  clear hty
  go_wp2_with fail
  refine (kD1.out _ x6).mono ?_
  rintro e w1 ⟨rfl, hb1⟩
  clear x0 x1 x2 x3 x4 x5 x6
  have hW1 := Lib.hid (hW0.out.below hb1)
  clear hb1 kD1 hW0
  obtain ⟨x0, x1, x2, x3, x4, x5, x6⟩ := hW1.out
  cases hd1 : dsI ks
  · have hbad := Lib.hid (hno.out (noTk_k hd1))
    clear hd1 hno hyes
    go_wp2_with fail
    exact bodyPost_ret (v := .tuple #[.agg #[.slice none 0 0], .int .i64 1200]) (by simp [results, Try.results27, go_sem, x4, x0, setS x4, x5]) rfl (hbad.out _ (by (repeat' (first | with_reducible exact Below.refl _ _ | with_reducible assumption | with_reducible apply Below.setCell | with_reducible apply Below.alloc | with_reducible apply Below.drew | with_reducible apply below_drewN | with_reducible exact Nat.le_refl _ | (simp; done) | (simp; omega) | omega | exact Nat.le_refl _))))
  have hkl := dsI_len hd1
  have hd1 := Lib.hid hd1
  rename_i hd1'
  clear hd1'
  go_wp2_with fail
  refine (kD2.out _ x6).mono ?_
  rintro e w2 ⟨rfl, hb2⟩
  clear x0 x1 x2 x3 x4 x5 x6
  have hW2 := Lib.hid (hW1.out.below hb2)
  clear hb2 kD2 hW1
  obtain ⟨x0, x1, x2, x3, x4, x5, x6⟩ := hW2.out
  cases hd2 : dsI ms
  · have hbad := Lib.hid (hno.out (noTk_m hd2))
    clear hd2 hno hyes
    go_wp2_with fail
    exact bodyPost_ret (v := .tuple #[.agg #[.slice none 0 0], .int .i64 1200]) (by simp [results, Try.results27, go_sem, x4, x0, setS x4, x5]) rfl (hbad.out _ (by (repeat' (first | with_reducible exact Below.refl _ _ | with_reducible assumption | with_reducible apply Below.setCell | with_reducible apply Below.alloc | with_reducible apply Below.drew | with_reducible apply below_drewN | with_reducible exact Nat.le_refl _ | (simp; done) | (simp; omega) | omega | exact Nat.le_refl _))))
  have hml := dsI_len hd2
  have hd2 := Lib.hid hd2
  rename_i hd2'
  clear hd2'
  by_cases he : n4 = n1
  · subst he
    by_cases he2 : n5 = n2
    · subst he2
      have hle1 : Hid (xs.length = ks.length) := Lib.hid (by have := hn1.out; have := hn4.out; omega)
      have hle2 : Hid (rs.length = ms.length) := Lib.hid (by have := hn2.out; have := hn5.out; omega)
      have hok := Lib.hid (show tkOk ks xs ms rs = true by unfold tkOk; rw [hd1.out, hd2.out, decide_eq_true hle1.out, decide_eq_true hle2.out]; rfl)
      have hyes := Lib.hid (hyes.out hok.out)
      have hno := Lib.hid fun h => hno.out (show NoTk ks xs ms rs ts by unfold NoTk; rw [hok.out, Bool.true_and]; exact decide_eq_false h)
      have hk1 : n4 = ks.length := hn1.out
      have hk2 : n5 = ms.length := hn2.out
      subst hk1 hk2
      clear hd1 hd2
      go_wp2_with fail
      clear x0 x1 x2 x3 x4 x5 x6
      go_loopw [8, 9] (fun bv i wr => ∃ j : Nat, j ≤ ks.length ∧ i = .int .i64 j ∧ Hid (Below w2.heap.size w2 wr ∧ OwnB w2.heap.size wr bv (tbA ks xs j))) (fun _ i _ => ks.length - (intOf i).toNat)
      case atStart => exact ⟨0, by omega, rfl, Lib.hid ⟨Below.refl _ _, OwnB.nil _ _⟩⟩
      case round =>
        obtain ⟨j, hj, rfl, hI⟩ := hrel
        have hbw := hI.out.1
        have hO := Lib.hid hI.out.2
        have hww := Lib.hid (hW2.out.2.2.2.2.2.2.trans (hbw.mono (by have := hW2.out.1; omega)))
        have hws := hbw.size
        have hbw := Lib.hid hbw
        have hw2s := hW2.out.1
        obtain ⟨va, vn, vc, hve⟩ := ownB_sl hO.out
        subst hve
        by_cases hlt : j < ks.length
        · obtain ⟨b, off, rfl, hs, hb⟩ := isArg_at h1.out.2 hlt
          obtain ⟨b', off', rfl, hs', hb'⟩ := tpArg_at h4.out (show j < xs.length by have := hle1.out; omega)
          have hc := hs.below hww.out hb j hlt
          have hc' := carry hww.out hb' (hs' j (by have := hle1.out; omega)).1
          have hsu := Lib.hid (tbA_succ ks xs j)
          have htl := tbA_len ks xs j
          generalize ks.getD j 0 = k at hc hsu
          generalize xs.getD j tp0 = x at hc' hsu
          obtain ⟨L, hL⟩ : ∃ L, tbA ks xs j = L := ⟨_, rfl⟩
          rw [hL] at hO hsu htl
          have htl2 : L.length ≤ 4096 := by omega
          have hlt' : (j : Int) < (ks.length : Int) := by omega
          have hj0 : (0 : Int) ≤ (j : Int) := by omega
          have hbr : b < wr.heap.size := by omega
          have hbr' : b' < wr.heap.size := by omega
          clear hs hs' hL htl hI
          have hvs := carry hbw.out (by omega) hW2.out.2.1
          have hg0 : w.heap.size < w2.heap.size := by omega
          have hb2 : b < w2.heap.size := by have := hW2.out.2.2.2.2.2.2.size; omega
          have hb2' : b' < w2.heap.size := by have := hW2.out.2.2.2.2.2.2.size; omega
          have hln : Hid ((L.length + [tb1 k x].length) * 80 ≤ 140737488355328) := Lib.hid (by simp only [List.length_cons, List.length_nil]; omega)
          have hst : Hid (wr.cell? ⟨w.heap.size, 0, none⟩ = some (.slice (some ⟨b, off, none⟩) ks.length c1) ∧ wr.cell? ⟨b, off + j, none⟩ = some (.int .i64 k) ∧ wr.cell? ⟨b', off' + j, none⟩ = some (.slice x.ad x.n x.c) ∧ Below w2.heap.size wr wr) := Lib.hid ⟨hvs, hc, hc', Below.refl _ _⟩
          have hst1 := Lib.hid (s3_go hg0 hb2 hb2' hst.out ((Below.refl _ _).drew))
          clear hc hc' hvs
          go_wp2_with fail
          go_region_held3 (fun W => W.cell? ⟨w.heap.size, 0, none⟩ = some (.slice (some ⟨b, off, none⟩) ks.length c1) ∧ W.cell? ⟨b, off + j, none⟩ = some (.int .i64 k) ∧ W.cell? ⟨b', off' + j, none⟩ = some (.slice x.ad x.n x.c) ∧ Below w2.heap.size wr W)
            (first | exact hS3 | exact hst1.out | exact s3_alc hg0 hb2 hb2' hws (by assumption))
            (first | (refine step_bn rfl (.tmp 52) (.tmp 63) _ w2.heap.size (show w2.heap.size ≤ wr.drew.heap.size from hws) _ L [tb1 k x] _ rfl rfl 1 rfl rfl rfl (show OwnB w2.heap.size wr.drew _ L from hO.out) hln.out ?_; intro v3 w3 hO3 hB3; have hS3 := s3_go hg0 hb2 hb2' hst1.out hB3))
          have hO3' := Lib.hid hO3
          have hB3 := Lib.hid (hbw.out.trans hS3.2.2.2)
          go_wp2_with fail
          go_roundw
          case rel => exact ⟨j + 1, by omega, by go_num, Lib.hid ⟨hB3.out, by rw [hsu.out]; exact hO3'.out⟩⟩
          case measure => simp [intOf]; omega
        · obtain rfl : j = ks.length := by omega
          have hW3 := Lib.hid (hW2.out.below hbw.out)
          obtain ⟨x0, x1, x2, x3, x4, x5, x6⟩ := hW3.out
          rename World => w3
          clear hI
          go_wp2_with fail
          clear x0 x1 x2 x3 x4 x5 x6
          go_loopw [8, 10] (fun bv i wr => ∃ j : Nat, j ≤ ms.length ∧ i = .int .i64 j ∧ Hid (Below w2.heap.size w2 wr ∧ OwnB w2.heap.size wr bv (tbA ks xs ks.length ++ tbB ms rs j))) (fun _ i _ => ms.length - (intOf i).toNat)
          case atStart => exact ⟨0, by omega, rfl, Lib.hid ⟨hbw.out, by rw [show tbB ms rs 0 = [] from rfl, List.append_nil]; exact hO.out⟩⟩
          case round =>
            clear hO
            obtain ⟨j, hj, rfl, hI⟩ := hrel
            have hbx := hI.out.1
            have hO := Lib.hid hI.out.2
            have hww := Lib.hid (hW2.out.2.2.2.2.2.2.trans (hbx.mono (by have := hW2.out.1; omega)))
            have hws := hbx.size
            have hbx := Lib.hid hbx
            obtain ⟨va, vn, vc, hve⟩ := ownB_sl hO.out
            subst hve
            by_cases hlt : j < ms.length
            · obtain ⟨b, off, rfl, hs, hb⟩ := isArg_at h2.out.2 hlt
              obtain ⟨b', off', rfl, hs', hb'⟩ := rwArg_at h5.out (show j < rs.length by have := hle2.out; omega)
              have hc := hs.below hww.out hb j hlt
              obtain ⟨r0, r1, r2, r3, r4⟩ := hs' j (by have := hle2.out; omega)
              have r0 := carry hww.out hb' r0; have r1 := carry hww.out hb' r1; have r2 := carry hww.out hb' r2; have r3 := carry hww.out hb' r3; have r4 := carry hww.out hb' r4
              have hsu := Lib.hid (tbB_succ ms rs j)
              have htl : (tbA ks xs ks.length ++ tbB ms rs j).length ≤ 9000 := by rw [List.length_append, tbA_len, tbB_len]; omega
              generalize ms.getD j 0 = k at hc hsu
              generalize rs.getD j rw0 = r at r0 r1 r2 r3 r4 hsu
              obtain ⟨L, hL⟩ : ∃ L, tbA ks xs ks.length ++ tbB ms rs j = L := ⟨_, rfl⟩
              have hsu2 : Hid (tbA ks xs ks.length ++ tbB ms rs (j + 1) = L ++ [tb2 k r]) := Lib.hid (by rw [hsu.out, ← hL, List.append_assoc])
              rw [hL] at hO htl
              have hlt' : (j : Int) < (ms.length : Int) := by omega
              have hj0 : (0 : Int) ≤ (j : Int) := by omega
              have hbr : b < wr.heap.size := by omega
              have hbr' : b' < wr.heap.size := by omega
              clear hs hs' hL hI
              have hvs := carry hbx.out (by omega) hW2.out.2.2.1
              have hg0 : w.heap.size < w2.heap.size := by omega
              have hb2 : b < w2.heap.size := by have := hW2.out.2.2.2.2.2.2.size; omega
              have hb2' : b' < w2.heap.size := by have := hW2.out.2.2.2.2.2.2.size; omega
              have hln : Hid ((L.length + [tb2 k r].length) * 80 ≤ 140737488355328) := Lib.hid (by simp only [List.length_cons, List.length_nil]; omega)
              have hst : Hid (wr.cell? ⟨w.heap.size, 1, none⟩ = some (.slice (some ⟨b, off, none⟩) ms.length c2) ∧ wr.cell? ⟨b, off + j, none⟩ = some (.int .i64 k) ∧ wr.cell? ⟨b', off' + j * 5, none⟩ = some (.int .i64 r.a) ∧ wr.cell? ⟨b', off' + j * 5 + 1, none⟩ = some (.int .i64 r.b) ∧ wr.cell? ⟨b', off' + j * 5 + 2, none⟩ = some (.int .i64 r.c) ∧ wr.cell? ⟨b', off' + j * 5 + 3, none⟩ = some (.int .i64 r.d) ∧ wr.cell? ⟨b', off' + j * 5 + 4, none⟩ = some (.int .i64 r.t) ∧ Below w2.heap.size wr wr) := Lib.hid ⟨hvs, hc, r0, r1, r2, r3, r4, Below.refl _ _⟩
              have hst1 := Lib.hid (s7_go hg0 hb2 hb2' hst.out ((Below.refl _ _).drew))
              clear hc hvs r0 r1 r2 r3 r4
              go_wp2_with fail
              go_region_held3 (fun W => W.cell? ⟨w.heap.size, 1, none⟩ = some (.slice (some ⟨b, off, none⟩) ms.length c2) ∧ W.cell? ⟨b, off + j, none⟩ = some (.int .i64 k) ∧ W.cell? ⟨b', off' + j * 5, none⟩ = some (.int .i64 r.a) ∧ W.cell? ⟨b', off' + j * 5 + 1, none⟩ = some (.int .i64 r.b) ∧ W.cell? ⟨b', off' + j * 5 + 2, none⟩ = some (.int .i64 r.c) ∧ W.cell? ⟨b', off' + j * 5 + 3, none⟩ = some (.int .i64 r.d) ∧ W.cell? ⟨b', off' + j * 5 + 4, none⟩ = some (.int .i64 r.t) ∧ Below w2.heap.size wr W)
                (first | exact hS3 | exact hst1.out | exact s7_alc hg0 hb2 hb2' hws (by assumption))
                (first | (refine step_bn rfl (.tmp 71) (.tmp 82) _ w2.heap.size (show w2.heap.size ≤ wr.drew.heap.size from hws) _ L [tb2 k r] _ rfl rfl 1 rfl rfl rfl (show OwnB w2.heap.size wr.drew _ L from hO.out) hln.out ?_; intro v3 w3 hO3 hB3; have hS3 := s7_go hg0 hb2 hb2' hst1.out hB3))
              have hO3' := Lib.hid hO3
              have hB3 := Lib.hid (hbx.out.trans hS3.2.2.2.2.2.2.2)
              go_wp2_with fail
              go_roundw
              case rel => exact ⟨j + 1, by omega, by go_num, Lib.hid ⟨hB3.out, by rw [hsu2.out]; exact hO3'.out⟩⟩
              case measure => simp [intOf]; omega
            · obtain rfl : j = ms.length := by omega
              have hW4 := Lib.hid (hW2.out.below hbx.out)
              rename World => w4
              have hBs := Lib.hid (show BnArg w4 va vn (tkB ks xs ms rs) from OwnB.arg hO.out fun y hy => by
                have := tk_ok (a2 := a5) (n2 := ms.length) h4.out hle1.out.symm y hy
                exact ⟨this.1.below hww.out, this.2⟩)
              have hvn : vn ≤ 9000 := by
                have h1 := hBs.out.1
                unfold tkB at h1
                rw [List.length_append, tbA_len, tbB_len] at h1
                omega
              have kS := Lib.hid (rsubType_any va a3 vn vc n3 c3 (tkB ks xs ms rs) ts w4 hBs (Lib.hid (h3.out.below hww.out)) (by omega) hl3)
              have hEb := (show 0 ≤ subE (tkB ks xs ms rs) ts ∧ subE (tkB ks xs ms rs) ts ≤ 900 by unfold subE; split <;> omega)
              unfold SubPost at kS
              obtain ⟨E, hE⟩ : ∃ E, subE (tkB ks xs ms rs) ts = E := ⟨_, rfl⟩
              obtain ⟨S, hS⟩ : ∃ E, subT (tkB ks xs ms rs) ts = E := ⟨_, rfl⟩
              rw [hE] at kS hno hyes hEb
              rw [hS] at kS hyes
              obtain ⟨x0, x1, x2, x3, x4, x5, x6⟩ := hW4.out
              clear hI hO hBs hE hS
              go_wp2_with fail
              clear x0 x1 x2 x3 x4 x5 x6
              refine kS.out.mono ?_
              rintro e w5 ⟨v5, rfl, hv5, hb5⟩
              have hW5 := Lib.hid (hW4.out.below hb5)
              have hv5' := Lib.hid hv5
              obtain ⟨ya, yn, yc, hye⟩ := ownT_sl hv5
              subst hye
              have hs5 := hb5.size
              have hw4 := hW4.out.1
              clear hb5 hv5
              obtain ⟨x0, x1, x2, x3, x4, x5, x6⟩ := hW5.out
              have y1 : w.heap.size + 1 < w5.heap.size + 1 := by omega
              by_cases hz : E = 0
              · have hpo := Lib.hid fun W v => hyes.out W v hz
                subst hz
                clear hno hyes
                go_wp2_with fail
                exact bodyPost_ret (v := .tuple #[.agg #[.slice ya yn yc], .int .i64 0]) (by simp [results, Try.results27, go_sem, x4, x0, y1]) rfl (hpo.out _ _ (by first | exact ownT_le (OwnT.below (ownT_put hv5'.out (show w.heap.size + 1 < w4.heap.size by omega)) (below_alc _ _)) (show w.heap.size ≤ w4.heap.size by omega) | exact ownT_le (ownT_put (hv5'.out.below (below_alc _ _)) (show w.heap.size + 1 < w4.heap.size by omega)) (show w.heap.size ≤ w4.heap.size by omega)) (by (repeat' (first | with_reducible exact Below.refl _ _ | with_reducible assumption | with_reducible apply Below.setCell | with_reducible apply Below.alloc | with_reducible apply Below.drew | with_reducible apply below_drewN | with_reducible exact Nat.le_refl _ | (simp; done) | (simp; omega) | omega | exact Nat.le_refl _))))
              · have hpo := Lib.hid (hno.out hz)
                have hzb : (E == 0) = false := beq_eq_false_iff_ne.2 hz
                have hzb2 : (E != 0) = true := by simpa using hz
                clear hno hyes
                go_wp2_with fail
                exact bodyPost_ret (v := .tuple #[.agg #[.slice none 0 0], .int .i64 1200]) (by simp [results, Try.results27, go_sem, x4, x0, y1]) rfl (hpo.out _ (by (repeat' (first | with_reducible exact Below.refl _ _ | with_reducible assumption | with_reducible apply Below.setCell | with_reducible apply Below.alloc | with_reducible apply Below.drew | with_reducible apply below_drewN | with_reducible exact Nat.le_refl _ | (simp; done) | (simp; omega) | omega | exact Nat.le_refl _))))
    · have hbad := Lib.hid (hno.out (noTk_r (by have := hn2.out; have := hn5.out; omega)))
      have q1 : ((n5 : Int) == (n2 : Int)) = false := beq_eq_false_iff_ne.2 (by omega)
      have q2 : ((n5 : Int) != (n2 : Int)) = true := by simpa using q1
      have q3 : (n5 == n2) = false := beq_eq_false_iff_ne.2 he2
      clear he2 hno hyes
      go_wp2_with fail
      exact bodyPost_ret (v := .tuple #[.agg #[.slice none 0 0], .int .i64 1200]) (by simp [results, Try.results27, go_sem, x4, x0, setS x4, x5]) rfl (hbad.out _ (by (repeat' (first | with_reducible exact Below.refl _ _ | with_reducible assumption | with_reducible apply Below.setCell | with_reducible apply Below.alloc | with_reducible apply Below.drew | with_reducible apply below_drewN | with_reducible exact Nat.le_refl _ | (simp; done) | (simp; omega) | omega | exact Nat.le_refl _))))
  · have hbad := Lib.hid (hno.out (noTk_x (by have := hn1.out; have := hn4.out; omega)))
    have q1 : ((n4 : Int) == (n1 : Int)) = false := beq_eq_false_iff_ne.2 (by omega)
    have q2 : ((n4 : Int) != (n1 : Int)) = true := by simpa using q1
    have q3 : (n4 == n1) = false := beq_eq_false_iff_ne.2 he
    clear he hno hyes
    go_wp2_with fail
    exact bodyPost_ret (v := .tuple #[.agg #[.slice none 0 0], .int .i64 1200]) (by simp [results, Try.results27, go_sem, x4, x0, setS x4, x5]) rfl (hbad.out _ (by (repeat' (first | with_reducible exact Below.refl _ _ | with_reducible assumption | with_reducible apply Below.setCell | with_reducible apply Below.alloc | with_reducible apply Below.drew | with_reducible apply below_drewN | with_reducible exact Nat.le_refl _ | (simp; done) | (simp; omega) | omega | exact Nat.le_refl _))))
end Go.Proofs.Ytjhmdobmbajcgaa
