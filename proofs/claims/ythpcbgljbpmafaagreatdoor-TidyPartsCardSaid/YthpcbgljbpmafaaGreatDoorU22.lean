/- Parts one behind the other. Plain. -/
import Derived.Test.YthpcbgljbpmafaaGreatDoorU5
import Derived.Test.YthpcbgljbpmafaaGreatDoorU9
import Derived.Test.YthpcbgljbpmafaaGreatDoorU16
import Derived.Test.YthpcbgljbpmafaaGreatDoorU18
import Derived.Test.YthpcbgljbpmafaaGreatDoorU21
import Derived.Test.YthpcbgljbpmafaaGreatDoorChecked
import Derived.Deep.RegionHeld3
import Derived.BigRegion
import Derived.Deep.RegionWith
set_option maxRecDepth 100000
set_option maxHeartbeats 8000000
namespace Go.Proofs.YthpcbgljbpmafaaGreatDoor
set_option linter.unusedVariables false
set_option linter.unusedSimpArgs false
def Seg (g : Nat → Int) : Int → List Int → Int → Prop
 | b, [], e => b = e
 | b, c :: cs, e => 0 ≤ c ∧ g c.toNat = b ∧ Seg g (c + 1) cs e
theorem seg_snoc {g : Nat → Int} : ∀ {cs : List Int} {b e c : Int}, Seg g b cs e → 0 ≤ c → g c.toNat = e → Seg g b (cs ++ [c]) (c + 1)
 | [], b, e, c, h, h0, h1 => by
  have h : b = e := h
  exact ⟨h0, by rw [h1, h], rfl⟩
 | d :: cs, b, e, c, h, h0, h1 => ⟨h.1, h.2.1, seg_snoc h.2.2 h0 h1⟩
theorem seg_of {g : Nat → Int} : ∀ (rs : List Int) (k : Int), 0 ≤ bgK g rs k → Seg g (bgK g rs k) rs.reverse k
 | [], k, _ => rfl
 | c :: rs, k, h => by
  unfold bgK at h ⊢
  by_cases h1 : c = k - 1 ∧ 1 ≤ k
  ·rw [if_pos h1] at h ⊢
   by_cases h2 : g (k - 1).toNat < 0
   ·rw [if_pos h2] at h; omega
   ·rw [if_neg h2] at h ⊢
    rw [List.reverse_cons]
    have := seg_snoc (c := c) (seg_of rs _ h) (by omega) (by rw [h1.1])
    rwa [show c + 1 = k by omega] at this
  ·rw [if_neg h1] at h; omega
theorem seg_bg (ks : Nat → List Int) (i : Nat) (h : 0 ≤ bg ks i) : Seg (bg ks) (bg ks i) (ks i) i := by
 have hh := h
 rw [bg_eq] at hh
 have := seg_of _ _ hh
 rw [← bg_eq, List.reverse_reverse] at this
 exact this
theorem seg_le {g : Nat → Int} (hg : ∀ j, g j ≤ j) : ∀ {cs : List Int} {b e : Int}, Seg g b cs e → b ≤ e
 | [], b, e, h => by have h : b = e := h; omega
 | c :: cs, b, e, h => by
  obtain ⟨h0, h1, h2⟩ := h
  have := seg_le hg h2
  have := hg c.toNat
  omega
theorem seg_mem {g : Nat → Int} (hg : ∀ j, g j ≤ j) : ∀ {cs : List Int} {b e : Int}, Seg g b cs e → ∀ c ∈ cs, 0 ≤ c ∧ b ≤ g c.toNat ∧ c < e
 | [], b, e, h, c, hc => by cases hc
 | d :: cs, b, e, h, c, hc => by
  obtain ⟨h0, h1, h2⟩ := h
  have h3 := seg_le hg h2
  have h4 := hg d.toNat
  rcases List.mem_cons.1 hc with rfl | hc
  ·omega
  ·have := seg_mem hg h2 c hc
   omega
open Go.RowKit
section
variable {P : Program} {ops : Array Oper} {Q : Exit → Act → World → Prop} {md : Region.Mode} {S : World → Prop}
theorem rg_take (i : Nat) (d : Option Tmp) {oi : Oper} {v : Value} {fuel : Nat} {listed : Array Bool} {a : Act} {w : World} (hi : ops[i]? = some oi) (hd : oi.dst = d)
  (hs : Region.noSelect ops = true) (hf : Region.free md ops listed i = true) (hr : (Region.ready md ops listed).contains i = true)
  (hQ : ∀ c a w, Q (.panic c) (a.put d v) w → Q (.panic c) a w) (hw : Region.wanted oi (yielded ops a.tmps) = true) (hy : ∀ w, S w → (execOp a.eval oi).run P w = .ok (.value v) w) (hS : S w)
  (h : wpAnyH P md ops Q S fuel (listed.setIfInBounds i true) (a.put d v) w) : wpAnyH P md ops Q S (fuel + 1) listed a w := by
 subst hd
 exact wpAnyH_take hi hs hf hr hQ (.inl ⟨hw, hy⟩) hS h
theorem rg_skip (i : Nat) (d : Option Tmp) {oi : Oper} {fuel : Nat} {listed : Array Bool} {a : Act} {w : World} (hi : ops[i]? = some oi) (hd : oi.dst = d)
  (hs : Region.noSelect ops = true) (hf : Region.free md ops listed i = true) (hr : (Region.ready md ops listed).contains i = true)
  (hQ : ∀ c a w, Q (.panic c) (a.put d undef) w → Q (.panic c) a w) (hw : Region.wanted oi (yielded ops a.tmps) = false) (hS : S w)
  (h : wpAnyH P md ops Q S fuel (listed.setIfInBounds i true) (a.put d undef) w) : wpAnyH P md ops Q S (fuel + 1) listed a w := by
 subst hd
 exact wpAnyH_take hi hs hf hr hQ (.inr ⟨hw, rfl⟩) hS h
theorem rg_one (i : Nat) {o : Oper} {fuel : Nat} {listed : Array Bool} {a : Act} {w : World} (hi : ops[i]? = some o) (hr : Region.ready md ops listed = [i]) (hw : Region.wanted o (yielded ops a.tmps) = true)
  (h : ∀ K' : Act → World → Prop, Shut (∀ a w, S w → (S w → wpAnyH P md ops Q S fuel (listed.setIfInBounds i true) a w) → K' a w) → Oper.wp P o a w K' Q) : wpAnyH P md ops Q S (fuel + 1) listed a w := by
 refine wpAnyH_ready hr (by simp) (AllReadyH.cons hi (fun K hK => ?_) AllReadyH.nil)
 rw [if_pos hw]
 exact h K hK
end
open Go.RowKit
def st10 (W : World) (g o : Nat) (t : Nd) : World := ((((((((((W.setCell ⟨g, o, none⟩ (.int .i64 t.k)).setCell ⟨g, o + 1, none⟩ (.int .i64 t.a)).setCell ⟨g, o + 2, none⟩ (.int .i64 t.b)).setCell ⟨g, o + 3, none⟩ (.int .i64 t.c)).setCell ⟨g, o + 4, none⟩ (.int .i64 t.n)).setCell ⟨g, o + 5, none⟩ (.string t.nm)).setCell ⟨g, o + 6, none⟩ (.string t.x)).setCell ⟨g, o + 7, none⟩ (.string t.y)).setCell ⟨g, o + 8, none⟩ (.string t.z)).setCell ⟨g, o + 9, none⟩ (.int .i64 t.p))
theorem st10_at {W : World} {g o : Nat} {t u : Nd} (h : W.cell? ⟨g, o, none⟩ = some (.int .i64 u.k) ∧ W.cell? ⟨g, o + 1, none⟩ = some (.int .i64 u.a) ∧ W.cell? ⟨g, o + 2, none⟩ = some (.int .i64 u.b) ∧ W.cell? ⟨g, o + 3, none⟩ = some (.int .i64 u.c) ∧ W.cell? ⟨g, o + 4, none⟩ = some (.int .i64 u.n) ∧ W.cell? ⟨g, o + 5, none⟩ = some (.string u.nm) ∧ W.cell? ⟨g, o + 6, none⟩ = some (.string u.x) ∧ W.cell? ⟨g, o + 7, none⟩ = some (.string u.y) ∧ W.cell? ⟨g, o + 8, none⟩ = some (.string u.z) ∧ W.cell? ⟨g, o + 9, none⟩ = some (.int .i64 u.p)) : (st10 W g o t).cell? ⟨g, o, none⟩ = some (.int .i64 t.k) ∧ (st10 W g o t).cell? ⟨g, o + 1, none⟩ = some (.int .i64 t.a) ∧ (st10 W g o t).cell? ⟨g, o + 2, none⟩ = some (.int .i64 t.b) ∧ (st10 W g o t).cell? ⟨g, o + 3, none⟩ = some (.int .i64 t.c) ∧ (st10 W g o t).cell? ⟨g, o + 4, none⟩ = some (.int .i64 t.n) ∧ (st10 W g o t).cell? ⟨g, o + 5, none⟩ = some (.string t.nm) ∧ (st10 W g o t).cell? ⟨g, o + 6, none⟩ = some (.string t.x) ∧ (st10 W g o t).cell? ⟨g, o + 7, none⟩ = some (.string t.y) ∧ (st10 W g o t).cell? ⟨g, o + 8, none⟩ = some (.string t.z) ∧ (st10 W g o t).cell? ⟨g, o + 9, none⟩ = some (.int .i64 t.p) := by
 obtain ⟨h0, h1, h2, h3, h4, h5, h6, h7, h8, h9⟩ := h
 unfold st10
 have ne : ∀ a b : Nat, a ≠ b → (⟨g, a, none⟩ : Addr) ≠ ⟨g, b, none⟩ := fun a b hab e => by injection e with _ e2 _; exact hab e2
 refine ⟨?_, ?_, ?_, ?_, ?_, ?_, ?_, ?_, ?_, ?_⟩
 ·exact (setO (setO (setO (setO (setO (setO (setO (setO (setO (setS h0) (ne _ _ (by omega))) (ne _ _ (by omega))) (ne _ _ (by omega))) (ne _ _ (by omega))) (ne _ _ (by omega))) (ne _ _ (by omega))) (ne _ _ (by omega))) (ne _ _ (by omega))) (ne _ _ (by omega)))
 ·exact (setO (setO (setO (setO (setO (setO (setO (setO (setS (setO h1 (ne _ _ (by omega)))) (ne _ _ (by omega))) (ne _ _ (by omega))) (ne _ _ (by omega))) (ne _ _ (by omega))) (ne _ _ (by omega))) (ne _ _ (by omega))) (ne _ _ (by omega))) (ne _ _ (by omega)))
 ·exact (setO (setO (setO (setO (setO (setO (setO (setS (setO (setO h2 (ne _ _ (by omega))) (ne _ _ (by omega)))) (ne _ _ (by omega))) (ne _ _ (by omega))) (ne _ _ (by omega))) (ne _ _ (by omega))) (ne _ _ (by omega))) (ne _ _ (by omega))) (ne _ _ (by omega)))
 ·exact (setO (setO (setO (setO (setO (setO (setS (setO (setO (setO h3 (ne _ _ (by omega))) (ne _ _ (by omega))) (ne _ _ (by omega)))) (ne _ _ (by omega))) (ne _ _ (by omega))) (ne _ _ (by omega))) (ne _ _ (by omega))) (ne _ _ (by omega))) (ne _ _ (by omega)))
 ·exact (setO (setO (setO (setO (setO (setS (setO (setO (setO (setO h4 (ne _ _ (by omega))) (ne _ _ (by omega))) (ne _ _ (by omega))) (ne _ _ (by omega)))) (ne _ _ (by omega))) (ne _ _ (by omega))) (ne _ _ (by omega))) (ne _ _ (by omega))) (ne _ _ (by omega)))
 ·exact (setO (setO (setO (setO (setS (setO (setO (setO (setO (setO h5 (ne _ _ (by omega))) (ne _ _ (by omega))) (ne _ _ (by omega))) (ne _ _ (by omega))) (ne _ _ (by omega)))) (ne _ _ (by omega))) (ne _ _ (by omega))) (ne _ _ (by omega))) (ne _ _ (by omega)))
 ·exact (setO (setO (setO (setS (setO (setO (setO (setO (setO (setO h6 (ne _ _ (by omega))) (ne _ _ (by omega))) (ne _ _ (by omega))) (ne _ _ (by omega))) (ne _ _ (by omega))) (ne _ _ (by omega)))) (ne _ _ (by omega))) (ne _ _ (by omega))) (ne _ _ (by omega)))
 ·exact (setO (setO (setS (setO (setO (setO (setO (setO (setO (setO h7 (ne _ _ (by omega))) (ne _ _ (by omega))) (ne _ _ (by omega))) (ne _ _ (by omega))) (ne _ _ (by omega))) (ne _ _ (by omega))) (ne _ _ (by omega)))) (ne _ _ (by omega))) (ne _ _ (by omega)))
 ·exact (setO (setS (setO (setO (setO (setO (setO (setO (setO (setO h8 (ne _ _ (by omega))) (ne _ _ (by omega))) (ne _ _ (by omega))) (ne _ _ (by omega))) (ne _ _ (by omega))) (ne _ _ (by omega))) (ne _ _ (by omega))) (ne _ _ (by omega)))) (ne _ _ (by omega)))
 ·exact (setS (setO (setO (setO (setO (setO (setO (setO (setO (setO h9 (ne _ _ (by omega))) (ne _ _ (by omega))) (ne _ _ (by omega))) (ne _ _ (by omega))) (ne _ _ (by omega))) (ne _ _ (by omega))) (ne _ _ (by omega))) (ne _ _ (by omega))) (ne _ _ (by omega))))
theorem st10_else {W : World} {g o : Nat} {t : Nd} {q : Addr} {v : Value} (h : W.cell? q = some v) (hq : ∀ k, k < 10 → q ≠ ⟨g, o + k, none⟩) : (st10 W g o t).cell? q = some v := by
 unfold st10
 exact (setO (setO (setO (setO (setO (setO (setO (setO (setO (setO h (Ne.symm (hq 0 (by omega)))) (Ne.symm (hq 1 (by omega)))) (Ne.symm (hq 2 (by omega)))) (Ne.symm (hq 3 (by omega)))) (Ne.symm (hq 4 (by omega)))) (Ne.symm (hq 5 (by omega)))) (Ne.symm (hq 6 (by omega)))) (Ne.symm (hq 7 (by omega)))) (Ne.symm (hq 8 (by omega)))) (Ne.symm (hq 9 (by omega))))
theorem st10_sl {W : World} {g i : Nat} {t : Nd} {l : List Nd} (h : NdSl W g 0 l) (hi : i < l.length) : NdSl (st10 W g (i * 10) t) g 0 (l.set i t) := by
 intro m hm
 rw [List.length_set] at hm
 have hx := h m hm
 unfold NdAt at hx ⊢
 simp only [Nat.zero_add] at hx ⊢
 by_cases hmi : m = i
 ·subst hmi
  rw [List.getD_eq_getElem?_getD, List.getElem?_set_self hm]
  exact st10_at hx
 ·rw [List.getD_eq_getElem?_getD, List.getElem?_set_ne (Ne.symm hmi), ← List.getD_eq_getElem?_getD]
  have ne : ∀ f, f < 10 → ∀ k, k < 10 → (⟨g, m * 10 + f, none⟩ : Addr) ≠ ⟨g, i * 10 + k, none⟩ := fun f hf k hk e => by injection e with _ e2 _; omega
  obtain ⟨h0, h1, h2, h3, h4, h5, h6, h7, h8, h9⟩ := hx
  exact ⟨st10_else h0 (ne 0 (by omega)), st10_else h1 (ne 1 (by omega)), st10_else h2 (ne 2 (by omega)), st10_else h3 (ne 3 (by omega)), st10_else h4 (ne 4 (by omega)), st10_else h5 (ne 5 (by omega)), st10_else h6 (ne 6 (by omega)), st10_else h7 (ne 7 (by omega)), st10_else h8 (ne 8 (by omega)), st10_else h9 (ne 9 (by omega))⟩
theorem st10_rest (W : World) (g o : Nat) (t : Nd) : (∀ q, (st10 W g o t).frozen? q = W.frozen? q) ∧ (st10 W g o t).heap.size = W.heap.size ∧ Bar (fun k => k = g) W (st10 W g o t) := by
 unfold st10
 refine ⟨fun q => by simp only [World.frozen?_setCell], by simp, ?_⟩
 have s : ∀ (V : World) (p : Nat) (u : Value), Bar (fun k => k = g) V (V.setCell ⟨g, p, none⟩ u) := fun V p u => Bar.set ⟨g, p, none⟩ u rfl
 exact ((((((((((s W o _).trans (s _ _ _) fun _ _ h => h).trans (s _ _ _) fun _ _ h => h).trans (s _ _ _) fun _ _ h => h).trans (s _ _ _) fun _ _ h => h).trans (s _ _ _) fun _ _ h => h).trans (s _ _ _) fun _ _ h => h).trans (s _ _ _) fun _ _ h => h).trans (s _ _ _) fun _ _ h => h).trans (s _ _ _) fun _ _ h => h)
open Go.RowKit
theorem Same.set {st st' : List Nd} (h : Same st st') {at_ : Nat} (m : Int) : Same st (st'.set at_ (bare (st.getD at_ nd0) m)) := by
 refine ⟨by rw [List.length_set]; exact h.len, fun i => ?_⟩
 by_cases e : i = at_
 ·subst e
  by_cases hl : i < st'.length
  ·rw [List.getD_eq_getElem?_getD, List.getElem?_set_self hl, Option.getD_some, kidsS_bare]
  ·rw [List.set_eq_of_length_le (by omega)]; exact h.shape i
 ·rw [List.getD_eq_getElem?_getD, List.getElem?_set_ne (Ne.symm e), ← List.getD_eq_getElem?_getD]; exact h.shape i
theorem NdSl.bar {S : Nat → Prop} {w w' : World} {b off : Nat} {ts : List Nd} (h : NdSl w b off ts) (hb : Bar S w w') (hn : ¬ S b) : NdSl w' b off ts := by
 intro i hi
 obtain ⟨h0, h1, h2, h3, h4, h5, h6, h7, h8, h9⟩ := h i hi
 exact ⟨hb.cell h0 hn, hb.cell h1 hn, hb.cell h2 hn, hb.cell h3 hn, hb.cell h4 hn, hb.cell h5 hn, hb.cell h6 hn, hb.cell h7 hn, hb.cell h8 hn, hb.cell h9 hn⟩
theorem OwnS.bar {S : Nat → Prop} {B : Nat} {w w' : World} {v : Value} {l : List ByteArray} (h : OwnS B w v l) (hb : Bar S w w') (hn : ∀ k, v.ownBlock = some k → ¬ S k) : OwnS B w' v l := Bar.own hb h hn
theorem OwnS.below {B : Nat} {w w' : World} {v : Value} {l : List ByteArray} (h : OwnS B w v l) (hb : Below w.heap.size w w') : OwnS B w' v l := h.bar (Bar.of_below (S := fun _ => False) hb) fun _ _ => id
def Nd10 (W : World) (g : Nat) (t : Nd) : Prop := g < W.heap.size ∧ W.cell? ⟨g, 0, none⟩ = some (.int .i64 t.k) ∧ W.cell? ⟨g, 1, none⟩ = some (.int .i64 t.a) ∧ W.cell? ⟨g, 2, none⟩ = some (.int .i64 t.b) ∧ W.cell? ⟨g, 3, none⟩ = some (.int .i64 t.c) ∧ W.cell? ⟨g, 4, none⟩ = some (.int .i64 t.n) ∧ W.cell? ⟨g, 5, none⟩ = some (.string t.nm) ∧ W.cell? ⟨g, 6, none⟩ = some (.string t.x) ∧ W.cell? ⟨g, 7, none⟩ = some (.string t.y) ∧ W.cell? ⟨g, 8, none⟩ = some (.string t.z) ∧ W.cell? ⟨g, 9, none⟩ = some (.int .i64 t.p) ∧ ∀ o, W.frozen? ⟨g, o, none⟩ = false
theorem nd10_lit (W : World) (arr : Array Value) (T : TypeId) (g : Nat) (t : Nd) (hg : g = W.heap.size) (h : arr.toList = ndL1 t) : Nd10 (W.alloc (.cells arr T)) g t := by
 subst hg
 refine ⟨by simp, ?_, ?_, ?_, ?_, ?_, ?_, ?_, ?_, ?_, ?_, fun o => by simp [go_sem]⟩ <;> (rw [World.cell?_alloc_at _ _ _ _ rfl, ← Array.getElem?_toList, h]; rfl)
theorem Nd10.bar {S : Nat → Prop} {W W' : World} {g : Nat} {t : Nd} (h : Nd10 W g t) (hb : Bar S W W') (hn : ¬ S g) : Nd10 W' g t := by
 obtain ⟨hl, h0, h1, h2, h3, h4, h5, h6, h7, h8, h9, hf⟩ := h
 exact ⟨by have := hb.size; omega, hb.cell h0 hn, hb.cell h1 hn, hb.cell h2 hn, hb.cell h3 hn, hb.cell h4 hn, hb.cell h5 hn, hb.cell h6 hn, hb.cell h7 hn, hb.cell h8 hn, hb.cell h9 hn, fun o => by rw [hb.frozen (a := ⟨g, o, none⟩) hl hn]; exact hf o⟩
theorem Nd10.below {W W' : World} {g : Nat} {t : Nd} (h : Nd10 W g t) (hb : Below W.heap.size W W') : Nd10 W' g t := h.bar (Bar.of_below (S := fun _ => False) hb) id
theorem kidsS_two (t : Nd) : ∀ c ∈ kidsS t, c.2.length ≤ 2 := by
 intro c hc
 unfold kidsS at hc
 (repeat' split at hc) <;> simp only [List.mem_cons, List.not_mem_nil, or_false] at hc <;> first | (exact absurd hc id) | (rcases hc with rfl | rfl | rfl <;> simp) | (rcases hc with rfl | rfl <;> simp) | (subst hc; simp)
theorem Bar.mono {S S' : Nat → Prop} {w w' : World} (h : Bar S w w') (hs : ∀ k, S k → S' k) : Bar S' w w' := ⟨h.os, h.tape, h.output, h.size, fun k hk hn => h.block k hk (fun hc => hn (hs k hc))⟩
open Go.RowKit
open Go.RowKit
def opOk (o : Or) : Bool := nmB o.nm.data.toList && baseB o.f && baseB o.t
def opsV (os : List Or) : Bool := decide (os.length ≤ 4) && os.all opOk
def mayV (os : List Or) (ts : List Nd) : Bool := opsV os && treeV (okNm true) ts
theorem opsV_op {os : List Or} {j : Nat} (h : j < os.length) (hn : opOk (os.getD j or0) = false) : opsV os = false := by
 have : os.all opOk = false := by
  cases hc : os.all opOk
  ·rfl
  ·rw [List.all_eq_true] at hc
   have := hc (os.getD j or0) (by simp [h])
   rw [this] at hn; cases hn
 unfold opsV; rw [this]; simp
theorem opsV_ok {os : List Or} (h1 : os.length ≤ 4) (h : os.all opOk = true) : opsV os = true := by unfold opsV; rw [h, decide_eq_true h1]; rfl
theorem opsV_len {os : List Or} (h1 : 4 < os.length) : opsV os = false := by unfold opsV; rw [decide_eq_false (by omega)]; rfl
theorem getO_mem {ts : List Or} {j : Nat} (hj : j < ts.length) : ts.getD j or0 ∈ ts := by
 rw [List.getD_eq_getElem?_getD, List.getElem?_eq_getElem hj]; exact List.getElem_mem hj
theorem isBase_any (k : Int) (w : World) : Calls Tryz.prog 78 #[.int .i64 k] w fun e w' => e = .returned (.bool (baseB k)) ∧ w = w' := by
 go_enter Tryz.func78, Tryz.ntmps78
 go_wp2_with fail
 all_goals
  go_ret
  exact ⟨ret_bb (by unfold baseB; rw [Bool.eq_iff_iff]; simp; try omega), rfl⟩
theorem basic_any (k : Int) (w : World) : Calls Tryz.prog 62 #[.int .i64 k] w fun e w' => e = .returned (.bool (baseB k)) ∧ w = w' := by
 go_enter Tryz.func62, Tryz.ntmps62
 go_wp2_with fail
 all_goals
  go_ret
  exact ⟨ret_bb (by unfold baseB; rw [Bool.eq_iff_iff]; simp; try omega), rfl⟩
theorem allO_take {os : List Or} {j : Nat} (h : j < os.length) (h2 : (os.take j).all opOk = true) : (os.take (j + 1)).all opOk = opOk (os.getD j or0) := by
 rw [List.take_succ_eq_append_getElem h, List.all_append, h2]
 simp [h]
theorem opsMay_any (a : Option Addr) (n c : Nat) (os : List Or) (w : World) (h : Hid (OArg w a n os)) (hsz : Hid (∀ t ∈ os, OrSz t)) (hl : n ≤ 140737488351232) :
  Calls Tryz.prog 41 #[.slice a n c] w fun e w' => e = .returned (.bool (opsV os)) ∧ Below w.heap.size w w' := by
 have hn := h.out.1
 by_cases h4 : 4 < n
 ·have hv := Lib.hid (opsV_len (os := os) (by omega))
  have h4' : (4 : Int) < (n : Int) := by omega
  clear hn
  go_enter Tryz.func41, Tryz.ntmps41
  go_wp2_with fail
  go_ret
  exact ⟨ret_b hv.out.symm, by (repeat' (first | (with_reducible first | exact bR _ _ | assumption | apply bS | apply bA | apply bD | apply bN | exact bL _) | (simp; done) | (simp; omega) | omega | exact bL _))⟩
 have h4' : ¬ (4 : Int) < (n : Int) := by omega
 obtain ⟨V, hV⟩ : ∃ v, opsV os = v := ⟨_, rfl⟩
 rw [hV]
 have hfin : Hid (∀ j, j < n → opOk (os.getD j or0) = false → V = false) := Lib.hid fun j hj h => by rw [← hV]; exact opsV_op (by omega) h
 have hok : Hid (os.all opOk = true → V = true) := Lib.hid fun h => by rw [← hV]; exact opsV_ok (by omega) h
 have hat : Hid (∀ j, j < n → ∃ b off, a = some ⟨b, off, none⟩ ∧ OrAt w b off (os.getD j or0) j ∧ b < w.heap.size) := Lib.hid fun j hj => by
  rcases h.out.2 with rfl | ⟨b, off, h1, h2, h3⟩
  ·simp at hn; omega
  ·exact ⟨b, off, h1, h2 j (by omega), h3⟩
 have hn' := Lib.hid hn
 clear hV hn
 go_enter Tryz.func41, Tryz.ntmps41
 go_wp2_with fail
 go_loopw [3] (fun i wr => ∃ j : Nat, j ≤ n ∧ i = .int .i64 j ∧ Below w.heap.size w wr ∧ Hid ((os.take j).all opOk = true)) (fun i _ => n - (intOf i).toNat)
 case atStart => exact ⟨0, by omega, rfl, by (repeat' (first | (with_reducible first | exact bR _ _ | assumption | apply bS | apply bA | apply bD | apply bN | exact bL _) | (simp; done) | (simp; omega) | omega | exact bL _)), Lib.hid rfl⟩
 case round =>
  obtain ⟨j, hj, rfl, hbw, hall⟩ := hrel
  by_cases hlt : j < n
  ·obtain ⟨b, off, rfl, hA, hbs⟩ := hat.out j hlt
   have hT := hA.below hbw hbs
   have htk := Lib.hid (allO_take (os := os) (by rw [← hn'.out]; exact hlt) hall.out)
   have hfj := Lib.hid (hfin.out j hlt)
   have hsj := Lib.hid (hsz.out _ (getO_mem (ts := os) (j := j) (by rw [← hn'.out]; exact hlt)))
   generalize os.getD j or0 = o at hT htk hfj hsj
   have kN := Lib.hid fun (W : World) => nameMay_any o.nm W hsj.out
   have hop : Hid (opOk o = (nmB o.nm.data.toList && baseB o.f && baseB o.t)) := Lib.hid rfl
   have k1 := Lib.hid fun (W : World) => basic_any o.f W
   have k2 := Lib.hid fun (W : World) => basic_any o.t W
   generalize nmB o.nm.data.toList = b0 at kN hop
   generalize baseB o.f = b1 at k1 hop
   generalize baseB o.t = b2 at k2 hop
   obtain ⟨e0, e1, e2⟩ := hT
   have hbr : b < wr.heap.size := by have := hbw.size; omega
   have hlt' : (j : Int) < (n : Int) := by omega
   have hj0 : (0 : Int) ≤ (j : Int) := by omega
   go_wp2_with fail
   refine (kN.out _).mono ?_
   rintro e w1 ⟨rfl, hb1⟩
   have hbw1 := Lib.hid (belT hbw hb1)
   have d1 := carry hb1 hbr e1
   have d2 := carry hb1 hbr e2
   clear hb1 e0 e1 e2
   cases b0
   ·have hf := Lib.hid (hfj.out (by rw [hop.out]; rfl))
    go_wp2_with fail
    go_ret
    exact ⟨ret_b hf.out.symm, hbw1.out⟩
   go_wp2_with fail
   refine (k1.out _).mono ?_
   rintro e w2 ⟨rfl, rfl⟩
   cases b1
   ·have hf := Lib.hid (hfj.out (by rw [hop.out]; rfl))
    go_wp2_with fail
    go_ret
    exact ⟨ret_b hf.out.symm, hbw1.out⟩
   go_wp2_with fail
   refine (k2.out _).mono ?_
   rintro e w2 ⟨rfl, rfl⟩
   cases b2
   ·have hf := Lib.hid (hfj.out (by rw [hop.out]; rfl))
    go_wp2_with fail
    go_ret
    exact ⟨ret_b hf.out.symm, hbw1.out⟩
   go_wp2_with fail
   go_round
   case rel => exact ⟨j + 1, by omega, by go_num, hbw1.out, Lib.hid (by rw [htk.out, hop.out]; rfl)⟩
   case measure => simp [intOf]; omega
  ·have hv := Lib.hid (hok.out (by have := hall.out; rwa [List.take_of_length_le (by have := hn'.out; omega)] at this))
   have hjn : ¬ (j : Int) < (n : Int) := by omega
   go_wp2_with fail
   go_ret
   exact ⟨ret_b hv.out.symm, hbw⟩
theorem rMay_any (a a2 : Option Addr) (n c n2 c2 : Nat) (os : List Or) (ts : List Nd) (w : World) (h : Hid (OArg w a n os)) (hsz : Hid (∀ t ∈ os, OrSz t)) (hl : n ≤ 140737488351232) (h2 : Hid (NArg w a2 n2 ts)) (hsz2 : Hid (∀ t ∈ ts, NdSz t)) (hl2 : n2 ≤ 140737488351232) :
  Calls Tryz.prog 54 #[.agg #[.slice a n c, .slice a2 n2 c2]] w fun e w' => e = .returned (.bool (mayV os ts)) ∧ Below w.heap.size w w' := by
 have k1 := Lib.hid fun (W : World) (hW : Hid (OArg W a n os)) => opsMay_any a n c os W hW hsz hl
 have k2 := Lib.hid fun (W : World) (hW : Hid (NArg W a2 n2 ts)) => shaped_any true a2 n2 c2 ts W hW hsz2 hl2
 unfold mayV
 generalize opsV os = b1 at k1 ⊢
 generalize treeV (okNm true) ts = b2 at k2 ⊢
 go_enter Tryz.func54, Tryz.ntmps54
 go_wp2_with fail
 refine (k1.out _ (Lib.hid (h.out.below (by (repeat' (first | (with_reducible first | exact bR _ _ | assumption | apply bS | apply bA | apply bD | apply bN | exact bL _) | (simp; done) | (simp; omega) | omega | exact bL _)))))).mono ?_
 rintro e w1 ⟨rfl, hb1⟩
 have hB1 := Lib.hid (belT (show Below w.heap.size w _ from by (repeat' (first | (with_reducible first | exact bR _ _ | assumption | apply bS | apply bA | apply bD | apply bN | exact bL _) | (simp; done) | (simp; omega) | omega | exact bL _))) hb1)
 have q1 : w1.cell? ⟨w.heap.size, 1, none⟩ = some (.slice a2 n2 c2) := carry hb1 (by simp) (by simp)
 clear hb1
 cases b1
 ·go_wp2_with fail
  go_ret
  exact ⟨rfl, hB1.out⟩
 ·go_wp2_with fail
  refine (k2.out _ (Lib.hid (h2.out.below hB1.out))).mono ?_
  rintro e w2 ⟨rfl, hb2⟩
  have hB2 := Lib.hid (belT hB1.out hb2)
  clear hb2
  go_wp2_with fail
  go_ret
  exact ⟨ret_b (by simp), hB2.out⟩
theorem tMay_any (a a2 : Option Addr) (n c n2 c2 : Nat) (os : List Or) (ts : List Nd) (w : World) (h : Hid (OArg w a n os)) (hsz : Hid (∀ t ∈ os, OrSz t)) (hl : n ≤ 140737488351232) (h2 : Hid (NArg w a2 n2 ts)) (hsz2 : Hid (∀ t ∈ ts, NdSz t)) (hl2 : n2 ≤ 140737488351232) (hg : Hid (errTy w)) :
  Calls Tryz.prog 56 #[.agg #[.slice a n c, .slice a2 n2 c2]] w fun e w' => e = .returned (.bool (mayV os ts)) ∧ Below w.heap.size w w' := by
 have hn := h.out.1
 have k2 := Lib.hid fun (W : World) (hW : Hid (NArg W a2 n2 ts)) (hg : Hid (errTy W)) => isTreeN_any a2 n2 c2 ts W hW hsz2 hl2 hg
 by_cases h4 : 4 < n
 ·have hv : Hid (mayV os ts = false) := Lib.hid (by unfold mayV; rw [opsV_len (by omega)]; rfl)
  have h4' : (4 : Int) < (n : Int) := by omega
  clear hn
  go_enter Tryz.func56, Tryz.ntmps56
  go_wp2_with fail
  go_ret
  exact ⟨ret_b hv.out.symm, by (repeat' (first | (with_reducible first | exact bR _ _ | assumption | apply bS | apply bA | apply bD | apply bN | exact bL _) | (simp; done) | (simp; omega) | omega | exact bL _))⟩
 have h4' : ¬ (4 : Int) < (n : Int) := by omega
 cases hb : treeV (okNm true) ts
 ·have hv : Hid (mayV os ts = false) := Lib.hid (by unfold mayV; rw [hb, Bool.and_false])
  rw [hb] at k2
  clear hn hb
  go_enter Tryz.func56, Tryz.ntmps56
  go_wp2_with fail
  refine (k2.out _ (Lib.hid (h2.out.below (by (repeat' (first | (with_reducible first | exact bR _ _ | assumption | apply bS | apply bA | apply bD | apply bN | exact bL _) | (simp; done) | (simp; omega) | omega | exact bL _))))) (Lib.hid (errTy_below hg.out (by (repeat' (first | (with_reducible first | exact bR _ _ | assumption | apply bS | apply bA | apply bD | apply bN | exact bL _) | (simp; done) | (simp; omega) | omega | exact bL _)))))).mono ?_
  rintro e w1 ⟨rfl, hb1⟩
  have hB1 := Lib.hid (belT (show Below w.heap.size w _ from by (repeat' (first | (with_reducible first | exact bR _ _ | assumption | apply bS | apply bA | apply bD | apply bN | exact bL _) | (simp; done) | (simp; omega) | omega | exact bL _))) hb1)
  clear hb1
  go_wp2_with fail
  go_ret
  exact ⟨ret_b hv.out.symm, hB1.out⟩
 obtain ⟨V, hV⟩ : ∃ v, mayV os ts = v := ⟨_, rfl⟩
 have hV2 : opsV os = V := by rw [← hV]; unfold mayV; rw [hb, Bool.and_true]
 rw [hV]
 rw [hb] at k2
 have hfin : Hid (∀ j, j < n → opOk (os.getD j or0) = false → V = false) := Lib.hid fun j hj h => by rw [← hV2]; exact opsV_op (by omega) h
 have hok : Hid (os.all opOk = true → V = true) := Lib.hid fun h => by rw [← hV2]; exact opsV_ok (by omega) h
 have hat : Hid (∀ j, j < n → ∃ b off, a = some ⟨b, off, none⟩ ∧ OrAt w b off (os.getD j or0) j ∧ b < w.heap.size) := Lib.hid fun j hj => by
  rcases h.out.2 with rfl | ⟨b, off, h1, h2, h3⟩
  ·simp at hn; omega
  ·exact ⟨b, off, h1, h2 j (by omega), h3⟩
 have hn' := Lib.hid hn
 have h0l := hgl hg.out
 clear hV hn hV2 hb
 go_enter Tryz.func56, Tryz.ntmps56
 go_wp2_with fail
 refine (k2.out _ (Lib.hid (h2.out.below (by (repeat' (first | (with_reducible first | exact bR _ _ | assumption | apply bS | apply bA | apply bD | apply bN | exact bL _) | (simp; done) | (simp; omega) | omega | exact bL _))))) (Lib.hid (errTy_below hg.out (by (repeat' (first | (with_reducible first | exact bR _ _ | assumption | apply bS | apply bA | apply bD | apply bN | exact bL _) | (simp; done) | (simp; omega) | omega | exact bL _)))))).mono ?_
 rintro e w1 ⟨rfl, hb1⟩
 have hB1 := Lib.hid (belT (show Below w.heap.size w _ from by (repeat' (first | (with_reducible first | exact bR _ _ | assumption | apply bS | apply bA | apply bD | apply bN | exact bL _) | (simp; done) | (simp; omega) | omega | exact bL _))) hb1)
 have q0 : w1.cell? ⟨w.heap.size, 0, none⟩ = some (.slice a n c) := carry hb1 (by simp) (by simp)
 clear hb1
 go_wp2_with fail
 go_loopw [18] (fun i wr => ∃ j : Nat, j ≤ n ∧ i = .int .i64 j ∧ Below w.heap.size w wr ∧ Hid ((os.take j).all opOk = true)) (fun i _ => n - (intOf i).toNat)
 case atStart => exact ⟨0, by omega, rfl, hB1.out, Lib.hid rfl⟩
 case round =>
  obtain ⟨j, hj, rfl, hbw, hall⟩ := hrel
  have hws := hbw.size
  by_cases hlt : j < n
  ·obtain ⟨b, off, rfl, hA, hbs⟩ := hat.out j hlt
   have hT := hA.below hbw hbs
   have htk := Lib.hid (allO_take (os := os) (by rw [← hn'.out]; exact hlt) hall.out)
   have hfj := Lib.hid (hfin.out j hlt)
   have hsj := Lib.hid (hsz.out _ (getO_mem (ts := os) (j := j) (by rw [← hn'.out]; exact hlt)))
   generalize os.getD j or0 = o at hT htk hfj hsj
   have kN := Lib.hid fun (W : World) (h : errTy W) => isName_any o.nm W hsj.out h
   have hop : Hid (opOk o = (nmB o.nm.data.toList && baseB o.f && baseB o.t)) := Lib.hid rfl
   have k1 := Lib.hid fun (W : World) => isBase_any o.f W
   have k3 := Lib.hid fun (W : World) => isBase_any o.t W
   generalize nmB o.nm.data.toList = b0 at kN hop
   generalize baseB o.f = b1 at k1 hop
   generalize baseB o.t = b2 at k3 hop
   obtain ⟨e0, e1, e2⟩ := hT
   have hbr : b < wr.heap.size := by omega
   have hlt' : (j : Int) < (n : Int) := by omega
   have hj0 : (0 : Int) ≤ (j : Int) := by omega
   have hgr := Lib.hid (errTy_below hg.out hbw)
   go_wp2_with fail
   refine (kN.out _ (errTy_below hgr.out (by (repeat' (first | (with_reducible first | exact bR _ _ | assumption | apply bS | apply bA | apply bD | apply bN | exact bL _) | (simp; done) | (simp; omega) | omega | exact bL _))))).mono ?_
   rintro e w2 ⟨rfl, hb2⟩
   have hbw1 := Lib.hid (belT (show Below w.heap.size w _ from by (repeat' (first | (with_reducible first | exact bR _ _ | assumption | apply bS | apply bA | apply bD | apply bN | exact bL _) | (simp; done) | (simp; omega) | omega | exact bL _))) hb2)
   have d1 : w2.cell? ⟨wr.heap.size, 1, none⟩ = some (.int .i64 o.f) := carry hb2 (by simp) (by simp)
   have d2 : w2.cell? ⟨wr.heap.size, 2, none⟩ = some (.int .i64 o.t) := carry hb2 (by simp) (by simp)
   clear hb2 e0 e1 e2
   cases b0
   ·have hf := Lib.hid (hfj.out (by rw [hop.out]; rfl))
    go_wp2_with fail
    go_ret
    exact ⟨ret_b hf.out.symm, hbw1.out⟩
   go_wp2_with fail
   refine (k1.out _).mono ?_
   rintro e w3 ⟨rfl, rfl⟩
   cases b1
   ·have hf := Lib.hid (hfj.out (by rw [hop.out]; rfl))
    go_wp2_with fail
    go_ret
    exact ⟨ret_b hf.out.symm, hbw1.out⟩
   go_wp2_with fail
   refine (k3.out _).mono ?_
   rintro e w3 ⟨rfl, rfl⟩
   cases b2
   ·have hf := Lib.hid (hfj.out (by rw [hop.out]; rfl))
    go_wp2_with fail
    go_ret
    exact ⟨ret_b hf.out.symm, hbw1.out⟩
   go_wp2_with fail
   go_round
   case rel => exact ⟨j + 1, by omega, by go_num, hbw1.out, Lib.hid (by rw [htk.out, hop.out]; rfl)⟩
   case measure => simp [intOf]; omega
  ·have hv := Lib.hid (hok.out (by have := hall.out; rwa [List.take_of_length_le (by have := hn'.out; omega)] at this))
   have hjn : ¬ (j : Int) < (n : Int) := by omega
   go_wp2_with fail
   go_ret
   exact ⟨ret_b hv.out.symm, hbw⟩
open Go.RowKit
def Pg (W : World) (g : Nat) (a : Option Addr) (n c : Nat) (a2 : Option Addr) (n2 c2 : Nat) : Prop := g < W.heap.size ∧ W.cell? ⟨g, 0, none⟩ = some (.slice a n c) ∧ W.cell? ⟨g, 1, none⟩ = some (.slice a2 n2 c2)
theorem Pg.below {W W' : World} {g : Nat} {a a2 : Option Addr} {n c n2 c2 : Nat} (h : Pg W g a n c a2 n2 c2) (hb : Below W.heap.size W W') : Pg W' g a n c a2 n2 c2 := ⟨by have := hb.size; have := h.1; omega, carry hb h.1 h.2.1, carry hb h.1 h.2.2⟩
theorem pg_lit (W : World) (T : TypeId) (g : Nat) (hg : g = W.heap.size) (a a2 : Option Addr) (n c n2 c2 : Nat) : Pg (W.alloc (.cells #[.slice a n c, .slice a2 n2 c2] T)) g a n c a2 n2 c2 := by
 subst hg
 refine ⟨by simp, ?_, ?_⟩ <;> (rw [World.cell?_alloc_at _ _ _ _ rfl]; rfl)
end Go.Proofs.YthpcbgljbpmafaaGreatDoor
