/- TypeNames holds for every type and every number. No condition but that the listed package variables hold what the program's text lays. -/
import Derived.Test.YtdganhamafhfdaaDoorCards
import Derived.Test.YtdganhamafhfdaaDoorTie
import Derived.Test.YtdganhamafhfdaaDoorOpn
import Derived.Test.YtdganhamafhfdaaDoorCrd
import Derived.WalkKit
import Derived.ProofKit
import Derived.Deep.DeepHandedRow
import Derived.Test.YtdganhamafhfdaaDoorEqA
import Derived.Test.YtdganhamafhfdaaDoorTyI
import Derived.Test.YtdganhamafhfdaaDoorAw7
import Derived.Test.YtdganhamafhfdaaDoorAid
namespace Go.Proofs.YtdganhamafhfdaaDoor.typeNames
open Go.ChangeShapes Go.WideShapes Go.ChangeAt Go.RowKit
open Go.ChangeMaps (open_string shut_string)
set_option linter.unusedVariables false
set_option linter.unusedSimpArgs false

theorem tabs {W : World} (h : laidMetH Tryd.prog Rows.typeNamesRow.laid W) : Hid (TabW W) := by
  have hm : ("internal/strconv.uint64pow10", (Rows.laid_internal_strconv_uint64pow10 : DataW Unit)) ∈ Rows.typeNamesRow.laid := .tail _ (.tail _ (.head _))
  rw [show (Rows.laid_internal_strconv_uint64pow10 : DataW Unit) = Lib.tabData .u64 Lib.pow10Tab from by kernel_rfl] at hm
  exact Lib.hid (tabIs_of_mem gPow (t := 211) (e := 166) (n := 20) (by kernel_rfl) Tryd.underlying211 Tryd.underlying166 (by kernel_rfl) (by kernel_rfl) h hm)

/-- a node with its variables renamed. -/
def rn (d : Int) (t : Ty) : Ty := if t.k = 2 then { t with v := t.v + d } else if t.k = 3 ∧ 0 ≤ t.t then { t with t := t.t + d } else t
def inb (t : Ty) : Bool := decide (0 ≤ t.v ∧ t.v < 4032 ∧ -1 ≤ t.t ∧ t.t < 4032)
theorem rn_k (d : Int) (t : Ty) : (rn d t).k = t.k ∧ (rn d t).a = t.a ∧ (rn d t).b = t.b := by
  unfold rn; split
  · exact ⟨rfl, rfl, rfl⟩
  · split <;> exact ⟨rfl, rfl, rfl⟩
theorem rn_ok {d : Int} (hd : 1 ≤ d ∧ d ≤ 64) {t : Ty} (h : inb t = true) : tyOk (rn d t) = tyOk t := by
  have h := of_decide_eq_true h
  obtain ⟨k, v, a, b, c0, c1, c2, c3, tl⟩ := t
  simp only [] at h
  unfold rn tyOk
  by_cases h2 : k = 2
  · subst h2
    simp
    rw [decide_eq_true (show 0 ≤ v + d by omega), decide_eq_true (show v + d < 4096 by omega), decide_eq_true (show 0 ≤ v by omega), decide_eq_true (show v < 4096 by omega)]
  · by_cases h3 : k = 3
    · subst h3
      by_cases ht : 0 ≤ tl
      · simp [ht, mayR]
        rw [decide_eq_true (show -1 ≤ tl + d by omega), decide_eq_true (show tl + d < 4096 by omega), decide_eq_true (show -1 ≤ tl by omega), decide_eq_true (show tl < 4096 by omega)]
      · simp [ht]
    · simp [h2, h3]
theorem rn_V {d : Int} (hd : 1 ≤ d ∧ d ≤ 64) {ts : List Ty} (h : ∀ t ∈ ts, inb t = true) : tyV (ts.map (rn d)) = tyV ts := by
  have e1 : (ts.map (rn d)).all tyOk = ts.all tyOk := by
    rw [List.all_map]
    rw [Bool.eq_iff_iff, List.all_eq_true, List.all_eq_true]
    exact ⟨fun g t ht => by have := g t ht; simp only [Function.comp] at this; rwa [rn_ok hd (h t ht)] at this, fun g t ht => by simp only [Function.comp]; rw [rn_ok hd (h t ht)]; exact g t ht⟩
  have e2 : ksT (ts.map (rn d)) = ksT ts := by
    funext i
    unfold ksT
    rw [List.getD_eq_getElem?_getD, List.getD_eq_getElem?_getD, List.getElem?_map]
    cases ts[i]? with
    | none => rfl
    | some t => simp only [Option.map_some, Option.getD_some]; rw [(rn_k d t).1, (rn_k d t).2.1, (rn_k d t).2.2]
  unfold tyV
  rw [e1, e2, List.length_map]
theorem rn_fl {d : Int} (hd : 1 ≤ d ∧ d ≤ 64) : ∀ (T : TT) (o : Nat), T.ok = true → (∀ t ∈ fl o T, inb t = true) → (fl o T).map (rn d) = fl o (renT (· + d) (· + d) T) ∧ (renT (· + d) (· + d) T).ok = true ∧ (renT (· + d) (· + d) T).sz = T.sz
  | .base k, o, h, hb => by
    have hk : k = 0 ∨ k = 1 := by simpa [TT.ok] using h
    refine ⟨?_, h, rfl⟩
    rcases hk with rfl | rfl <;> rfl
  | .var v, o, h, hb => by
    have hv := of_decide_eq_true (hb (vrT v) (by unfold fl; simp))
    simp only [vrT] at hv
    refine ⟨rfl, ?_, rfl⟩
    show (decide (0 ≤ v + d) && decide (v + d < 4096)) = true
    rw [decide_eq_true (by omega), decide_eq_true (by omega)]; rfl
  | .fn a r b, o, h, hb => by
    unfold TT.ok at h
    simp only [Bool.and_eq_true] at h
    rw [fl_fn] at hb
    obtain ⟨h1, h2, h3⟩ := rn_fl hd a o h.1.1 (fun t ht => hb t (by simp [ht]))
    obtain ⟨g1, g2, g3⟩ := rn_fl hd b (o + a.sz) h.2 (fun t ht => hb t (by simp [ht]))
    have hf := of_decide_eq_true (hb (fnT ((o + a.sz : Nat) - 1) ((o + a.sz + b.sz : Nat) - 1) r) (by simp))
    simp only [fnT] at hf
    have hm := of_decide_eq_true (show mayR r.a r.b r.c r.d r.t = true from h.1.2)
    rw [renT_fn]
    refine ⟨?_, ?_, ?_⟩
    · rw [fl_fn, fl_fn, List.map_append, List.map_append, h1, g1, h3, g3]
      congr 1
      show [rn d (fnT _ _ r)] = _
      congr 1
      unfold rn fnT
      by_cases ht : r.t < 0
      · simp only [if_pos ht]
        rw [if_neg (by decide), if_neg (by omega)]
      · simp only [if_neg ht]
        rw [if_neg (by decide), if_pos (by first | exact ⟨rfl, by omega⟩ | exact ⟨trivial, by omega⟩)]
    · unfold TT.ok
      rw [h2, g2]
      simp only [Bool.true_and, Bool.and_true]
      by_cases ht : r.t < 0
      · rw [if_pos ht]; exact h.1.2
      · rw [if_neg ht]; exact decide_eq_true (by simp only []; omega)
    · unfold TT.sz; rw [h3, g3]
theorem rn_text {d : Int} (hd : 1 ≤ d ∧ d ≤ 64) {ts : List Ty} (h : ∀ t ∈ ts, inb t = true) : txV (ts.map (rn d)) = txV ts ∧ txE (ts.map (rn d)) = txE ts := by
  have hV := rn_V hd h
  cases hv : tyV ts
  · rw [hv] at hV
    unfold txV txE
    rw [hV, hv]; exact ⟨rfl, rfl⟩
  · rw [hv] at hV
    have hto := tyV_of hv
    have hb : ∀ t ∈ fl 0 (treeOf ts), inb t = true := by rw [← hto.2.1]; exact h
    obtain ⟨h1, h2, _⟩ := rn_fl hd (treeOf ts) 0 hto.1 hb
    rw [← hto.2.1] at h1
    have e : treeOf (ts.map (rn d)) = renT (· + d) (· + d) (treeOf ts) := by rw [h1]; exact treeOf_fl h2
    have := (tx_renT (f := (· + d)) (g := (· + d)) (P := fun _ => True) (Q := fun x => 0 ≤ x) (fun x y _ _ h => by simpa using h) (fun x y _ _ h => by simpa using h) (fun x hx => by show 0 ≤ x + d; have hx : 0 ≤ x := hx; omega) (treeOf ts) [] [] (fun _ h => by cases h) (fun _ h => by cases h) (fun _ _ => trivial) (hasT_pos _)).1
    unfold txV txE
    rw [hV, hv, e]
    refine ⟨?_, rfl⟩
    rw [if_pos rfl, if_pos rfl]
    simp only [List.map_nil] at this
    rw [this]
/-- the row as it is renamed, up to a place. -/
def rnL (d : Int) (ts : List Ty) (j : Nat) : List Ty := (ts.take j).map (rn d) ++ ts.drop j
theorem rnL_len (d : Int) (ts : List Ty) (j : Nat) : (rnL d ts j).length = ts.length := by
  unfold rnL; rw [List.length_append, List.length_map, List.length_take, List.length_drop]; omega
theorem rnL_at {d : Int} {ts : List Ty} {j : Nat} (h : j < ts.length) : (rnL d ts j).getD j ty0 = ts.getD j ty0 := by
  unfold rnL
  rw [List.getD_eq_getElem?_getD, List.getElem?_append_right (by rw [List.length_map, List.length_take]; omega), List.length_map, List.length_take, show j - min j ts.length = 0 by omega, List.getElem?_drop, Nat.add_zero, ← List.getD_eq_getElem?_getD]
theorem rnL_succ {d : Int} {ts : List Ty} {j : Nat} (h : j < ts.length) : rnL d ts (j + 1) = (rnL d ts j).set j (rn d (ts.getD j ty0)) := by
  unfold rnL
  rw [List.take_succ_eq_append_getElem h, List.map_append, List.append_assoc, List.set_append_right _ _ (by rw [List.length_map, List.length_take]; omega), List.length_map, List.length_take, show j - min j ts.length = 0 by omega, List.drop_eq_getElem_cons h, List.set_cons_zero, List.getD_eq_getElem?_getD, List.getElem?_eq_getElem h]
  rfl
def st9 (W : World) (g o : Nat) (t : Ty) : World := (((((((((W.setCell ⟨g, o, none⟩ (.int .i64 t.k)).setCell ⟨g, o + 1, none⟩ (.int .i64 t.v)).setCell ⟨g, o + 2, none⟩ (.int .i64 t.a)).setCell ⟨g, o + 3, none⟩ (.int .i64 t.b)).setCell ⟨g, o + 4, none⟩ (.int .i64 t.c0)).setCell ⟨g, o + 5, none⟩ (.int .i64 t.c1)).setCell ⟨g, o + 6, none⟩ (.int .i64 t.c2)).setCell ⟨g, o + 7, none⟩ (.int .i64 t.c3)).setCell ⟨g, o + 8, none⟩ (.int .i64 t.t))
theorem st9_at {W : World} {g o : Nat} {t u : Ty} (h : W.cell? ⟨g, o, none⟩ = some (.int .i64 u.k) ∧ W.cell? ⟨g, o + 1, none⟩ = some (.int .i64 u.v) ∧ W.cell? ⟨g, o + 2, none⟩ = some (.int .i64 u.a) ∧ W.cell? ⟨g, o + 3, none⟩ = some (.int .i64 u.b) ∧ W.cell? ⟨g, o + 4, none⟩ = some (.int .i64 u.c0) ∧ W.cell? ⟨g, o + 5, none⟩ = some (.int .i64 u.c1) ∧ W.cell? ⟨g, o + 6, none⟩ = some (.int .i64 u.c2) ∧ W.cell? ⟨g, o + 7, none⟩ = some (.int .i64 u.c3) ∧ W.cell? ⟨g, o + 8, none⟩ = some (.int .i64 u.t)) :
    (st9 W g o t).cell? ⟨g, o, none⟩ = some (.int .i64 t.k) ∧ (st9 W g o t).cell? ⟨g, o + 1, none⟩ = some (.int .i64 t.v) ∧ (st9 W g o t).cell? ⟨g, o + 2, none⟩ = some (.int .i64 t.a) ∧ (st9 W g o t).cell? ⟨g, o + 3, none⟩ = some (.int .i64 t.b) ∧ (st9 W g o t).cell? ⟨g, o + 4, none⟩ = some (.int .i64 t.c0) ∧ (st9 W g o t).cell? ⟨g, o + 5, none⟩ = some (.int .i64 t.c1) ∧ (st9 W g o t).cell? ⟨g, o + 6, none⟩ = some (.int .i64 t.c2) ∧ (st9 W g o t).cell? ⟨g, o + 7, none⟩ = some (.int .i64 t.c3) ∧ (st9 W g o t).cell? ⟨g, o + 8, none⟩ = some (.int .i64 t.t) := by
  obtain ⟨h0, h1, h2, h3, h4, h5, h6, h7, h8⟩ := h
  unfold st9
  have ne : ∀ a b : Nat, a ≠ b → (⟨g, a, none⟩ : Addr) ≠ ⟨g, b, none⟩ := fun a b hab e => by injection e with _ e2 _; exact hab e2
  refine ⟨?_, ?_, ?_, ?_, ?_, ?_, ?_, ?_, ?_⟩
  · exact (setO (setO (setO (setO (setO (setO (setO (setO (setS h0) (ne _ _ (by omega))) (ne _ _ (by omega))) (ne _ _ (by omega))) (ne _ _ (by omega))) (ne _ _ (by omega))) (ne _ _ (by omega))) (ne _ _ (by omega))) (ne _ _ (by omega)))
  · exact (setO (setO (setO (setO (setO (setO (setO (setS (setO h1 (ne _ _ (by omega)))) (ne _ _ (by omega))) (ne _ _ (by omega))) (ne _ _ (by omega))) (ne _ _ (by omega))) (ne _ _ (by omega))) (ne _ _ (by omega))) (ne _ _ (by omega)))
  · exact (setO (setO (setO (setO (setO (setO (setS (setO (setO h2 (ne _ _ (by omega))) (ne _ _ (by omega)))) (ne _ _ (by omega))) (ne _ _ (by omega))) (ne _ _ (by omega))) (ne _ _ (by omega))) (ne _ _ (by omega))) (ne _ _ (by omega)))
  · exact (setO (setO (setO (setO (setO (setS (setO (setO (setO h3 (ne _ _ (by omega))) (ne _ _ (by omega))) (ne _ _ (by omega)))) (ne _ _ (by omega))) (ne _ _ (by omega))) (ne _ _ (by omega))) (ne _ _ (by omega))) (ne _ _ (by omega)))
  · exact (setO (setO (setO (setO (setS (setO (setO (setO (setO h4 (ne _ _ (by omega))) (ne _ _ (by omega))) (ne _ _ (by omega))) (ne _ _ (by omega)))) (ne _ _ (by omega))) (ne _ _ (by omega))) (ne _ _ (by omega))) (ne _ _ (by omega)))
  · exact (setO (setO (setO (setS (setO (setO (setO (setO (setO h5 (ne _ _ (by omega))) (ne _ _ (by omega))) (ne _ _ (by omega))) (ne _ _ (by omega))) (ne _ _ (by omega)))) (ne _ _ (by omega))) (ne _ _ (by omega))) (ne _ _ (by omega)))
  · exact (setO (setO (setS (setO (setO (setO (setO (setO (setO h6 (ne _ _ (by omega))) (ne _ _ (by omega))) (ne _ _ (by omega))) (ne _ _ (by omega))) (ne _ _ (by omega))) (ne _ _ (by omega)))) (ne _ _ (by omega))) (ne _ _ (by omega)))
  · exact (setO (setS (setO (setO (setO (setO (setO (setO (setO h7 (ne _ _ (by omega))) (ne _ _ (by omega))) (ne _ _ (by omega))) (ne _ _ (by omega))) (ne _ _ (by omega))) (ne _ _ (by omega))) (ne _ _ (by omega)))) (ne _ _ (by omega)))
  · exact (setS (setO (setO (setO (setO (setO (setO (setO (setO h8 (ne _ _ (by omega))) (ne _ _ (by omega))) (ne _ _ (by omega))) (ne _ _ (by omega))) (ne _ _ (by omega))) (ne _ _ (by omega))) (ne _ _ (by omega))) (ne _ _ (by omega))))
theorem st9_else {W : World} {g o : Nat} {t : Ty} {q : Addr} {v : Value} (h : W.cell? q = some v) (hq : ∀ k, k < 9 → q ≠ ⟨g, o + k, none⟩) : (st9 W g o t).cell? q = some v := by
  unfold st9
  exact (setO (setO (setO (setO (setO (setO (setO (setO (setO h (Ne.symm (hq 0 (by omega)))) (Ne.symm (hq 1 (by omega)))) (Ne.symm (hq 2 (by omega)))) (Ne.symm (hq 3 (by omega)))) (Ne.symm (hq 4 (by omega)))) (Ne.symm (hq 5 (by omega)))) (Ne.symm (hq 6 (by omega)))) (Ne.symm (hq 7 (by omega)))) (Ne.symm (hq 8 (by omega))))
theorem st9_sl {W : World} {g i : Nat} {t : Ty} {l : List Ty} (h : TySl W g 0 l) (hi : i < l.length) : TySl (st9 W g (i * 9) t) g 0 (l.set i t) := by
  intro m hm
  rw [List.length_set] at hm
  have hx := h m hm
  unfold TyAt at hx ⊢
  simp only [Nat.zero_add] at hx ⊢
  by_cases hmi : m = i
  · subst hmi
    rw [List.getD_eq_getElem?_getD, List.getElem?_set_self hm]
    exact st9_at hx
  · rw [List.getD_eq_getElem?_getD, List.getElem?_set_ne (Ne.symm hmi), ← List.getD_eq_getElem?_getD]
    have ne : ∀ f, f < 9 → ∀ k, k < 9 → (⟨g, m * 9 + f, none⟩ : Addr) ≠ ⟨g, i * 9 + k, none⟩ := fun f hf k hk e => by injection e with _ e2 _; omega
    obtain ⟨h0, h1, h2, h3, h4, h5, h6, h7, h8⟩ := hx
    exact ⟨st9_else h0 (ne 0 (by omega)), st9_else h1 (ne 1 (by omega)), st9_else h2 (ne 2 (by omega)), st9_else h3 (ne 3 (by omega)), st9_else h4 (ne 4 (by omega)), st9_else h5 (ne 5 (by omega)), st9_else h6 (ne 6 (by omega)), st9_else h7 (ne 7 (by omega)), st9_else h8 (ne 8 (by omega))⟩
theorem st9_rest (W : World) (g o : Nat) (t : Ty) : (∀ q, (st9 W g o t).frozen? q = W.frozen? q) ∧ (st9 W g o t).heap.size = W.heap.size ∧ ∀ B, B ≤ g → Below B W (st9 W g o t) := by
  unfold st9
  refine ⟨fun q => by simp only [World.frozen?_setCell], by simp, fun B hB => ?_⟩
  exact ((((((((((Below.refl B W).setCell hB _).setCell hB _).setCell hB _).setCell hB _).setCell hB _).setCell hB _).setCell hB _).setCell hB _).setCell hB _)
theorem tn_step {w1 wr : World} {g U n cp j : Nat} {d : Int} {ts : List Ty} {t' : Ty} {arr : Array Value} {T : TypeId} (hg : w1.heap.size ≤ g) (hgU : g < U) (hj : j < ts.length) (ht' : t' = rn d (ts.getD j ty0)) (hin : inb (ts.getD j ty0) = true)
    (h : Below w1.heap.size w1 wr ∧ BoxAt wr U (.slice (some ⟨g, 0, none⟩) n cp) ∧ TySl wr g 0 (rnL d ts j) ∧ (∀ o, wr.frozen? ⟨g, o, none⟩ = false) ∧ ∀ i, i < j → inb (ts.getD i ty0) = true) :
    Below w1.heap.size w1 ((st9 wr g (j * 9) t').alloc (.cells arr T)) ∧ BoxAt ((st9 wr g (j * 9) t').alloc (.cells arr T)) U (.slice (some ⟨g, 0, none⟩) n cp) ∧ TySl ((st9 wr g (j * 9) t').alloc (.cells arr T)) g 0 (rnL d ts (j + 1)) ∧ (∀ o, ((st9 wr g (j * 9) t').alloc (.cells arr T)).frozen? ⟨g, o, none⟩ = false) ∧ ∀ i, i < j + 1 → inb (ts.getD i ty0) = true := by
  obtain ⟨h1, ⟨h2, h3⟩, h4, h5, h6⟩ := h
  obtain ⟨r1, r2, r3⟩ := st9_rest wr g (j * 9) t'
  have hgw : g < (st9 wr g (j * 9) t').heap.size := by rw [r2]; omega
  refine ⟨belA _ (h1.trans (r3 _ hg)), BoxAt.alloc _ ⟨by rw [r2]; exact h2, st9_else h3 (fun k _ e => by injection e with e1 _ _; omega)⟩, ?_, fun o => ?_, fun i hi => ?_⟩
  · rw [rnL_succ hj, ← ht']
    exact (st9_sl h4 (by rw [rnL_len]; exact hj)).below (below_alc _ _) hgw
  · rw [(below_alc (st9 wr g (j * 9) t') (.cells arr T)).frozen (p := ⟨g, o, none⟩) hgw, r1]; exact h5 o
  · rcases Nat.lt_or_ge i j with h | h
    · exact h6 i h
    · obtain rfl : i = j := by omega
      exact hin
set_option maxRecDepth 100000 in
set_option maxHeartbeats 16000000 in
theorem walk {H : Type} {enc : TypeId × Value → H} (p0 : Option Addr) (n0 c0 : Nat) (x : Int) (w : World)
    (f0 : ∃ fuel y, DataW.trod enc Tryd.prog w 0 (fun _ => true) true fuel 22 [.slice p0 n0 c0] = some y ∧ ∀ x ∈ DataW.weights Tryd.prog 22 y.1, x ≤ reachBytes) (hxb : -9223372036854775808 ≤ x ∧ x ≤ 9223372036854775807) (hT : Hid (TabW w)) :
    Calls Tryd.prog 4 #[.agg #[.slice p0 n0 c0], .int .i64 x] w fun e w' => e = .returned (.bool true) ∧ Below w.heap.size w w' := by
  obtain ⟨_, _, t, t'⟩ := f0
  obtain ⟨hl0, ts, hA⟩ := ty_open t t'
  clear t t' hxb
  have hA := Lib.hid hA
  obtain ⟨y, hy⟩ : ∃ y, x % 64 = y := ⟨_, rfl⟩
  have hand : bits .and .i64 x 63 = y := by rw [and63, hy]
  have hyb : 0 ≤ y ∧ y < 64 := by omega
  obtain ⟨d, hd⟩ : ∃ d, 1 + y = d := ⟨_, rfl⟩
  have hd1 : 1 ≤ d := by omega
  have hd2 : d ≤ 64 := by omega
  have hdb := Lib.hid (show 1 ≤ d ∧ d ≤ 64 from ⟨hd1, hd2⟩)
  clear hyb
  have hy' := Lib.hid hy
  clear hy
  go_enter Tryd.func4, Tryd.ntmps4
  go_wp2_with fail
  refine (awake7_any _ (Lib.hid (tab_keep hT.out (show Below w.heap.size w _ from by (repeat' (first | with_reducible exact Below.refl _ _ | with_reducible assumption | with_reducible apply Below.setCell | with_reducible apply Below.alloc | with_reducible apply Below.drew | with_reducible apply below_drewN | with_reducible exact Nat.le_refl _ | (simp; done) | (simp; omega) | omega | exact Nat.le_refl _))) (Nat.le_refl _)))).mono ?_
  rintro e w1 ⟨rfl, hb1⟩
  have hX := Lib.hid (show BoxAt w1 w.heap.size (.slice p0 n0 c0) from BoxAt.below (by exact box_lit _ _ _ _ rfl) hb1)
  have hA1 := Lib.hid (TyArg.below (by exact TyArg.alloc _ hA.out) hb1)
  have hB := Lib.hid (belT (show Below w.heap.size w _ from by (repeat' (first | with_reducible exact Below.refl _ _ | with_reducible assumption | with_reducible apply Below.setCell | with_reducible apply Below.alloc | with_reducible apply Below.drew | with_reducible apply below_drewN | with_reducible exact Nat.le_refl _ | (simp; done) | (simp; omega) | omega | exact Nat.le_refl _))) hb1)
  clear hb1
  obtain ⟨x0, x1⟩ := hX.out
  go_wp2_with fail
  clear x0 x1
  refine (copyType_any _ _ _ ts _ hA1 (by omega)).mono ?_
  rintro e w2 ⟨v, rfl, hv, hb⟩
  have hX1 := hX
  have hX := Lib.hid (hX.out.below hb)
  have hB2 := Lib.hid hb
  clear hb
  have hn0 : n0 = ts.length := hA.out.1
  subst hn0
  rcases hv.cases with ⟨rfl, rfl⟩ | ⟨g, cp, rfl, hg, hg2, hcp, hsl, hfz⟩
  · have hB := Lib.hid (hB.out.trans (hB2.out.mono hB.out.size))
    have hA := Lib.hid (hA1.out.below hB2.out)
    have hU := Lib.hid (TyArg.alloc (.cells #[.slice none 0 0] 24) (tyArg_nil w2 none))
    have hY := Lib.hid (box_lit w2 24 w2.heap.size (.slice none 0 0) rfl)
    have hX := Lib.hid (hX.out.alloc (.cells #[.slice none 0 0] 24))
    have hA := Lib.hid (hA.out.alloc (.cells #[.slice none 0 0] 24))
    have hB := Lib.hid (belA (.cells #[.slice none 0 0] 24) hB.out)
    have h01 : txE [] = 0 ∨ txE [] = 700 := by unfold txE; split <;> simp
    clear hv hA1 hX1 hB2 hdb
    go_wp2_with fail
    go_loopw [7] (fun i wr => i = .int .i64 0 ∧ wr = w2.alloc (.cells #[.slice none 0 0] 24)) (fun _ _ => 0)
    case atStart => exact ⟨rfl, rfl⟩
    case round =>
      obtain ⟨rfl, rfl⟩ := hrel
      obtain ⟨x0, x1⟩ := hX.out
      go_wp2_with fail
      clear x0 x1
      refine (tyText_any _ _ _ [] _ hA (by omega) (Lib.hid (tab_keep hT.out hB.out (Nat.le_refl _)))).mono ?_
      rintro e w4 ⟨rfl, hb⟩
      have hY := Lib.hid (hY.out.below hb)
      have hU := Lib.hid (hU.out.below hb)
      have hB := Lib.hid (belT hB.out hb)
      clear hb
      obtain ⟨x0, x1⟩ := hY.out
      go_wp2_with fail
      clear x0 x1
      refine (tyText_any _ _ _ [] _ hU (by omega) (Lib.hid (tab_keep hT.out hB.out (Nat.le_refl _)))).mono ?_
      rintro e w5 ⟨rfl, hb⟩
      skip
      have hB := Lib.hid (belT hB.out hb)
      clear hb
      generalize txV [] = S
      generalize txE [] = E at h01 ⊢
      have hq : (S.toList == S.toList) = true := beq_self_eq_true _
      rcases h01 with rfl | rfl
      all_goals (go_wp2_with ((go_at_call 24; refine (num_any _ _ (by omega) (by omega)).mono ?_; rintro e w' ⟨rfl, rfl⟩)); go_ret; exact ⟨rfl, hB.out⟩)
  · have hv := Lib.hid hsl
    have hfz := Lib.hid hfz
    clear hsl
    have hs2 := hB2.out.size
    have hs1 := hB.out.size
    have hx0 := hX.out.1
    go_wp2_with fail
    go_loopw [7] (fun i wr => ∃ j : Nat, j ≤ ts.length ∧ i = .int .i64 j ∧ Hid (Below w1.heap.size w1 wr ∧ BoxAt wr w2.heap.size (.slice (some ⟨g, 0, none⟩) ts.length cp) ∧ TySl wr g 0 (rnL d ts j) ∧ (∀ o, wr.frozen? ⟨g, o, none⟩ = false) ∧ ∀ i, i < j → inb (ts.getD i ty0) = true)) (fun i _ => ts.length - (intOf i).toNat)
    case atStart => exact ⟨0, by omega, rfl, Lib.hid ⟨belT hB2.out (by (repeat' (first | with_reducible exact Below.refl _ _ | with_reducible assumption | with_reducible apply Below.setCell | with_reducible apply Below.alloc | with_reducible apply Below.drew | with_reducible apply below_drewN | with_reducible exact Nat.le_refl _ | (simp; done) | (simp; omega) | omega | exact Nat.le_refl _))), by exact box_lit _ _ _ _ rfl, (show TySl _ g 0 (rnL d ts 0) from by unfold rnL; rw [List.take_zero, List.map_nil, List.nil_append, List.drop_zero]; exact hv.out.below (below_alc _ _) hg2), fun o => by rw [(below_alc w2 (.cells #[.slice (some ⟨g, 0, none⟩) ts.length cp] 24)).frozen (p := ⟨g, o, none⟩) hg2]; exact hfz.out o, fun i hi => by omega⟩⟩
    case round =>
      obtain ⟨j, hj, rfl, hI⟩ := hrel
      obtain ⟨I1, ⟨I2, I3⟩, I4, I5, I6⟩ := hI.out
      by_cases hlt : j < ts.length
      · have hnd := I4 j (by rw [rnL_len]; exact hlt)
        rw [rnL_at hlt] at hnd
        obtain ⟨t, htj⟩ : ∃ t, ts.getD j ty0 = t := ⟨_, rfl⟩
        rw [htj] at hnd
        have hjt := Lib.hid (show ∀ t' : Ty, t' = rn d t → inb t = true → ∀ (arr : Array Value) (T : TypeId), _ from fun t' ht' hin arr T => tn_step (n := ts.length) (cp := cp) (U := w2.heap.size) (arr := arr) (T := T) hg hg2 hlt (ht'.trans (by rw [htj])) ((congrArg inb htj).trans hin) hI.out)
        have hlt' : (j : Int) < (ts.length : Int) := by omega
        have hj0 : (0 : Int) ≤ (j : Int) := by omega
        have hgr : g < wr.heap.size := by have := I1.size; omega
        have hgne : g < wr.heap.size + 1 := by omega
        have hune : w2.heap.size < wr.heap.size + 1 := by omega
        have hret := Lib.hid (show Below w.heap.size w wr from hB.out.trans (I1.mono hs1))
        obtain ⟨e0, e1, e2, e3, e4, e5, e6, e7, e8⟩ := hnd
        have z0 := I5 (j * 9); have z1 := I5 (j * 9 + 1); have z2 := I5 (j * 9 + 2); have z3 := I5 (j * 9 + 3); have z4 := I5 (j * 9 + 4); have z5 := I5 (j * 9 + 5); have z6 := I5 (j * 9 + 6); have z7 := I5 (j * 9 + 7); have z8 := I5 (j * 9 + 8)
        rw [Nat.zero_add] at e0 e1 e2 e3 e4 e5 e6 e7 e8
        obtain ⟨tk, tv, ta, tb, tc0, tc1, tc2, tc3, tt⟩ := t
        simp only [] at e0 e1 e2 e3 e4 e5 e6 e7 e8
        have htj' := Lib.hid htj
        clear I1 I4 I6 hI I5 htj
        by_cases hin : 0 ≤ tv ∧ tv < 4032 ∧ -1 ≤ tt ∧ tt < 4032
        · obtain ⟨hv0, hv1, ht0, ht1⟩ := hin
          have hib : Hid (inb ⟨tk, tv, ta, tb, tc0, tc1, tc2, tc3, tt⟩ = true) := Lib.hid (decide_eq_true ⟨hv0, hv1, ht0, ht1⟩)
          by_cases hk2 : tk = 2
          · subst hk2
            have hst := Lib.hid (hjt.out ⟨2, tv + d, ta, tb, tc0, tc1, tc2, tc3, tt⟩ rfl hib.out)
            clear hjt
            go_wp2_with fail
            go_roundw
            case rel => exact ⟨j + 1, by omega, by go_num, Lib.hid (hst.out _ _)⟩
            case measure => simp [intOf]; omega
          by_cases hk3 : tk = 3
          · subst hk3
            by_cases ht : 0 ≤ tt
            · have hst := Lib.hid (hjt.out ⟨3, tv, ta, tb, tc0, tc1, tc2, tc3, tt + d⟩ (by unfold rn; rw [if_neg (by show ¬ ((3 : Int) = 2); decide), if_pos ⟨rfl, ht⟩]) hib.out)
              clear hjt
              go_wp2_with fail
              go_roundw
              case rel => exact ⟨j + 1, by omega, by go_num, Lib.hid (hst.out _ _)⟩
              case measure => simp [intOf]; omega
            · obtain rfl : tt = -1 := by omega
              clear ht ht0 ht1
              have hst := Lib.hid (hjt.out ⟨3, tv, ta, tb, tc0, tc1, tc2, tc3, -1⟩ (by unfold rn; rw [if_neg (by show ¬ ((3 : Int) = 2); decide), if_neg (by show ¬ ((3 : Int) = 3 ∧ (0 : Int) ≤ -1); decide)]) hib.out)
              clear hjt
              go_wp2_with fail
              go_roundw
              case rel => exact ⟨j + 1, by omega, by go_num, Lib.hid (hst.out _ _)⟩
              case measure => simp [intOf]; omega
          · have hst := Lib.hid (hjt.out ⟨tk, tv, ta, tb, tc0, tc1, tc2, tc3, tt⟩ (by unfold rn; rw [if_neg hk2, if_neg (fun h => hk3 h.1)]) hib.out)
            have hq2 : (tk == 2) = false := beq_eq_false_iff_ne.2 hk2
            have hq3 : (tk == 3) = false := beq_eq_false_iff_ne.2 hk3
            clear hjt
            go_wp2_with fail
            go_roundw
            case rel => exact ⟨j + 1, by omega, by go_num, Lib.hid (hst.out _ _)⟩
            case measure => simp [intOf]; omega
        · have hcs : tv < 0 ∨ (0 ≤ tv ∧ 4032 ≤ tv) ∨ ((0 ≤ tv ∧ tv < 4032) ∧ tt < -1) ∨ ((0 ≤ tv ∧ tv < 4032) ∧ -1 ≤ tt ∧ 4032 ≤ tt) := by omega
          clear hin hjt
          rcases hcs with h | ⟨h, h'⟩ | ⟨⟨h, h'⟩, h''⟩ | ⟨⟨h, h'⟩, h'', h3⟩
          all_goals (go_wp2_with fail; go_ret; exact ⟨rfl, belA _ hret.out⟩)
      · obtain rfl : j = ts.length := by omega
        have hall : ∀ t ∈ ts, inb t = true := fun t ht => by
          obtain ⟨i, hi, rfl⟩ := List.getElem_of_mem ht
          have := I6 i hi
          rwa [List.getD_eq_getElem?_getD, List.getElem?_eq_getElem hi] at this
        have htx := Lib.hid (rn_text hdb.out hall)
        have hfull : rnL d ts ts.length = ts.map (rn d) := by unfold rnL; rw [List.take_length, List.drop_length, List.append_nil]
        rw [hfull] at I4
        have hU := Lib.hid (show TyArg wr (some ⟨g, 0, none⟩) ts.length (ts.map (rn d)) from ⟨by rw [List.length_map], .inr ⟨g, 0, rfl, I4, by have := I1.size; omega⟩⟩)
        have hX := Lib.hid (hX1.out.below I1)
        have hY := Lib.hid (show BoxAt wr w2.heap.size (.slice (some ⟨g, 0, none⟩) ts.length cp) from ⟨I2, I3⟩)
        have hA := Lib.hid (hA1.out.below I1)
        have hB := Lib.hid (show Below w.heap.size w wr from hB.out.trans (I1.mono hs1))
        have h01 : txE ts = 0 ∨ txE ts = 700 := by unfold txE; split <;> simp
        clear hfull hI I1 I2 I3 I4 I5 I6 hall
        obtain ⟨x0, x1⟩ := hX.out
        obtain ⟨y0, y1⟩ := hY.out
        go_wp2_with fail
        clear x0 x1 y0 y1
        refine (tyText_any _ _ _ ts _ hA (by omega) (Lib.hid (tab_keep hT.out hB.out (Nat.le_refl _)))).mono ?_
        rintro e w4 ⟨rfl, hb⟩
        have hY := Lib.hid (hY.out.below hb)
        have hU := Lib.hid (hU.out.below hb)
        have hB := Lib.hid (belT hB.out hb)
        clear hb
        obtain ⟨x0, x1⟩ := hY.out
        go_wp2_with fail
        clear x0 x1
        refine (tyText_any _ _ _ (ts.map (rn d)) _ hU (by omega) (Lib.hid (tab_keep hT.out hB.out (Nat.le_refl _)))).mono ?_
        rintro e w5 ⟨rfl, hb⟩
        rw [htx.out.1, htx.out.2]
        clear htx
        have hB := Lib.hid (belT hB.out hb)
        clear hb
        generalize txV ts = S
        generalize txE ts = E at h01 ⊢
        have hq : (S.toList == S.toList) = true := beq_self_eq_true _
        rcases h01 with rfl | rfl
        all_goals (go_wp2_with ((go_at_call 24; refine (num_any _ _ (by omega) (by omega)).mono ?_; rintro e w' ⟨rfl, rfl⟩)); go_ret; exact ⟨rfl, hB.out⟩)
theorem own : ownKnob Tryd.prog.godebug = none := by kernel_rfl
theorem laidOut : laidOutB Tryd.prog = true := by kernel_rfl
set_option maxRecDepth 100000 in
theorem contract (H : Type) (enc : TypeId × Value → H) (W : World) (base : Nat) (args : Array Value) (ds gs : List (DataW H)) (before : List MemPlace)
    (hval0 : ∀ (j : Nat) t v, Tryd.f4.params[j]? = some t → args[j]? = some v → Value.okWide Tryd.prog W .any base t v)
    (hW : DataW.Whole enc Tryd.prog Tryd.f4.params.toList Rows.typeNamesSpec.vars false W args.toList ds gs before)
    (hsz0 : (DataW.weightsEach Tryd.prog (Tryd.f4.params.toList ++ Rows.typeNamesSpec.plain.varTypes Tryd.prog) (ds ++ gs)).all (· ≤ reachBytes) = true)
    (hL : laidMetH Tryd.prog Rows.typeNamesRow.laid W)
    : Calls Tryd.prog 4 args W fun e W' => ∃ v, e = .returned v ∧ Rows.typeNamesSpec.post enc Tryd.prog Tryd.f4 false true false false W args v W' := by
  have hval : ∀ (j : Nat) t v, Tryd.f4.params[j]? = some t → args[j]? = some v → Value.okWide Tryd.prog W .any base t v := hval0
  have hsz : (DataW.weightsEach Tryd.prog (Tryd.f4.params.toList ++ Rows.typeNamesSpec.plain.varTypes Tryd.prog) (ds ++ gs)).all (· ≤ reachBytes) = true := hsz0
  have hW' := hW
  obtain ⟨p, q, hA0, hV, rfl, hfz, hnd⟩ := hW
  have hA : DataW.TrodAll enc Tryd.prog W 0 (fun _ => true) true Tryd.f4.params.toList args.toList ds p := hA0
  rw [Tryd.params4] at hA hval hsz
  obtain ⟨v0, vs0, d0, ds0, p0, q0, hargs, rfl, rfl, h0, r0⟩ := trodAll_cons hA
  obtain ⟨v1, vs1, d1, ds1, p1, q1, rfl, rfl, rfl, h1, r1⟩ := trodAll_cons r0
  obtain ⟨rfl, rfl, rfl⟩ := trodAll_nil r1
  obtain rfl : args = #[v0, v1] := by cases args; simp_all
  obtain ⟨rfl, rfl⟩ := trodVars_none hV
  have k0 := h0
  have lt0 : ∀ x ∈ p0, x.block < W.heap.size := by obtain ⟨m, hm⟩ := k0; exact DataW.trod_lt m _ _ _ hm
  obtain ⟨cs0_0, rfl, fit0_0⟩ := open_struct Tryd.underlying24 (f := 6) (by kernel_rfl : flat Tryd.prog 6 24 = some [.sl 22]) (hval 0 24 v0 rfl rfl) h0 (sized_of hsz (j := 0) (t := 24) rfl rfl)
  obtain ⟨_, cs0_1, rfl, ⟨a0_0, n0_0, c0_0, fu0_0, y0_0, rfl, f0_0, g0_0⟩, fit0_1⟩ := fit_i fit0_0
  obtain rfl := fit_nil fit0_1
  have k1 := h1
  have lt1 : ∀ x ∈ p1, x.block < W.heap.size := by obtain ⟨m, hm⟩ := k1; exact DataW.trod_lt m _ _ _ hm
  obtain ⟨a1, rfl, rfl, rfl, m1⟩ := open_int Tryd.underlying3 (hval 1 3 v1 rfl rfl) h1
  clear hA0 hval0
  refine (walk a0_0 n0_0 c0_0 a1 W ⟨_, _, f0_0, g0_0⟩ (bd_i64 m1) (tabs hL)).mono fun e W' ⟨he, bel⟩ => ?_
  subst he
  exact ⟨_, rfl, _, _, _, [], _, [], hW', trodAll_mk1 (shut_bool Tryd.underlying4 _), (trodAll_cons_mk (Below.trod laidOut (by kernel_rfl) (of_decide_eq_true (by kernel_rfl)) k0 bel lt0) (trodAll_cons_mk (Below.trod laidOut (by kernel_rfl) (of_decide_eq_true (by kernel_rfl)) k1 bel lt1) trodAll_mk0)), rfl, bel.frame _, fun h => by cases h⟩
noncomputable def laidWorld (os : Os) : World := { World.holding Tryd.prog os ⟨#[], #[], []⟩ with heap := layAll Tryd.prog Rows.typeNamesRow.laid (World.holding Tryd.prog os ⟨#[], #[], []⟩).heap }
theorem laid_met (os : Os) : laidMet Tryd.prog Rows.typeNamesRow.laid ((laidWorld os).forCall (fun _ _ => 0) ⟨#[], #[.agg #[.slice none 0 0], .int .i64 0], []⟩).memory := laidMet_of_run' 8 (by kernel_rfl) (by kernel_rfl)
theorem reads (os : Os) {H : Type} (enc : TypeId × Value → H) : ∃ places, DataW.whole enc Tryd.prog ((laidWorld os).forCall (fun _ _ => 0) ⟨#[], #[.agg #[.slice none 0 0], .int .i64 0], []⟩).memory Tryd.f4.params.toList Rows.typeNamesSpec.vars false #[(.agg #[.slice none 0 0] : Value), (.int .i64 0 : Value)].toList 8 = some ([.agg [.nil], .lit (.int .i64 0)], [], places) := ⟨[], by kernel_rfl⟩
set_option maxRecDepth 100000 in
theorem lifted (os : Os) (started : os.Started) (H : Type) (enc : TypeId × Value → H) (F : Stop.Interp) :
    ReturnsInHanded {} Tryd.checked os 4 .any ((OpenSpec.ofChange Rows.typeNamesSpec).preRow enc Tryd.prog Tryd.f4 Rows.typeNamesRow.domain false Rows.typeNamesRow.laid) (((OpenSpec.ofChange Rows.typeNamesSpec).at F).post enc Tryd.prog Tryd.f4 false true false false) := by
  obtain ⟨places, hx⟩ := reads os enc
  refine returnsInHanded_of_row (C := Tryd.checked) (s := (OpenSpec.ofChange Rows.typeNamesSpec)) own started (by kernel_rfl) Tryd.func4
    (witness_row_at (enc := enc) (C := Tryd.checked) false (laidWorld os) #[.agg #[.slice none 0 0], .int .i64 0] rfl (by kernel_rfl) (by kernel_rfl) (by kernel_rfl)
      (OpenSpec.preRow_of_cond 8 hx (by kernel_rfl) (fun k hk => by cases hk) (by kernel_rfl) (laid_met os))) ?_
  intro W base args ds gs before hval hW _ hcnd hsz hL _ _
  exact contract H enc W base args ds gs before hval hW hsz  hL
theorem said : Rows.TypeNamesSaid :=
  OpenClaim.holds_of_cond 4 Tryd.f4 rfl rfl rfl rfl rfl rfl rfl ⟨rfl, rfl, rfl, rfl, rfl⟩ rfl rfl rfl rfl rfl (by kernel_rfl) Tryd.func4 (by kernel_rfl)
    (of_decide_eq_true (by kernel_rfl)) (by unfold Func.isWrapper; first | (rw [if_pos (by decide +kernel)]; kernel_rfl) | (rw [if_neg (by decide +kernel)]; exact ⟨rfl, rfl⟩))
    (fun os started H enc _ F => by rw [OpenClaim.pre_eq_preRow]; exact lifted os started H enc F)
theorem plain (f : FuncId) (fn : Func) (hf : Tryd.pinned.checked.prog.funcNamed "trammel/trammellaw7.TypeNames" = some f) (hfn : Tryd.pinned.checked.prog.funcs[f]? = some fn) :
    true = Tryd.pinned.checked.prog.looks [] ∧ ∀ (j : Nat) t, fn.params[j]? = some t → Tryd.pinned.checked.prog.wantsStandIn t = false := by
  obtain rfl : f = 4 := Option.some.inj ((show Tryd.prog.funcNamed "trammel/trammellaw7.TypeNames" = some 4 by kernel_rfl).symm.trans hf) |>.symm
  obtain rfl : fn = Tryd.f4 := (Option.some.inj (Tryd.func4.symm.trans hfn)).symm
  refine ⟨by kernel_rfl, fun j t ht => ?_⟩
  rw [Tryd.params4] at ht
  have hm := Array.mem_of_getElem? ht
  have hm2 : t ∈ ([24, 3] : List Nat) := by simpa using hm
  simp only [List.mem_cons, List.not_mem_nil, or_false] at hm2
  rcases hm2 with rfl | rfl
  · exact (show Tryd.prog.wantsStandIn 24 = false by kernel_rfl)
  · exact (show Tryd.prog.wantsStandIn 3 = false by kernel_rfl)
theorem proved : Rows.TypeNamesCardSaid :=
  Claim7.holds_tied_plain_at .later [] _ _ _ _ said (fun _ h => by cases h) (by kernel_rfl) (fun _ h => by cases h) typeNames_row_tie rfl ⟨rfl, rfl⟩ (by kernel_rfl) rfl plain (by kernel_rfl)
end Go.Proofs.YtdganhamafhfdaaDoor.typeNames
