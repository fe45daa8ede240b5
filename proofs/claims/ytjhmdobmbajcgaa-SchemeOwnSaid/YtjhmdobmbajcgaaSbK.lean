/- Binds copied, side by side; a type written over. -/
import Derived.Test.YtjhmdobmbajcgaaSbO
import Derived.Test.YtjhmdobmbajcgaaSbG
import Derived.Test.YtjhmdobmbajcgaaBar
namespace Go.Proofs.Ytjhmdobmbajcgaa
open Go.RowKit Go.Maps
set_option linter.unusedVariables false
set_option linter.unusedSimpArgs false

/-- a bind but for where its type lies. -/
def Bn.core (x : Bn) : Bn := { x with ad := none, c := 0 }
def coreL (xs : List Bn) : List Bn := xs.map Bn.core
theorem core_ok (x : Bn) : x.core.ok = x.ok := rfl
theorem bsV_core (xs : List Bn) : bsV (coreL xs) = bsV xs := by
  unfold bsV coreL
  rw [List.length_map, List.all_map]
  rfl
theorem fst_core (xs : List Bn) (ir : Bool) (v : Int) : fst (coreL xs) ir v = fst xs ir v := by
  unfold fst coreL
  rw [List.findIdx?_map]
  rfl
theorem getD_core (xs : List Bn) (i : Nat) : ((coreL xs).getD i bn0).ns = (xs.getD i bn0).ns ∧ ((coreL xs).getD i bn0).r = (xs.getD i bn0).r := by
  unfold coreL
  rw [List.getD_eq_getElem?_getD, List.getD_eq_getElem?_getD, List.getElem?_map]
  cases xs[i]? <;> exact ⟨rfl, rfl⟩
theorem sgB_core (xs : List Bn) : sgB (coreL xs) = sgB xs := by
  funext v
  unfold sgB
  rw [fst_core]
  cases fst xs false v with
  | none => rfl
  | some i => simp only [Option.map_some, (getD_core xs i).1]
theorem rhB_core (xs : List Bn) : rhB (coreL xs) = rhB xs := by
  funext v
  unfold rhB
  rw [fst_core]
  cases fst xs true v with
  | none => rfl
  | some i => simp only [Option.map_some, (getD_core xs i).2]
theorem subT_core {xs ys : List Bn} (h : coreL xs = coreL ys) (ts : List Ty) : subT xs ts = subT ys ts ∧ subE xs ts = subE ys ts := by
  have e1 : bsV xs = bsV ys := by rw [← bsV_core xs, h, bsV_core]
  have e2 : sgB xs = sgB ys := by rw [← sgB_core xs, h, sgB_core]
  have e3 : rhB xs = rhB ys := by rw [← rhB_core xs, h, rhB_core]
  unfold subT subE
  rw [e1, e2, e3]
  exact ⟨rfl, rfl⟩
theorem subR_core {xs ys : List Bn} (h : coreL xs = coreL ys) (r : Rw) : subR xs r = subR ys r ∧ subRE xs r = subRE ys r := by
  have e1 : bsV xs = bsV ys := by rw [← bsV_core xs, h, bsV_core]
  have e3 : rhB xs = rhB ys := by rw [← rhB_core xs, h, rhB_core]
  unfold subR subRE
  rw [e1, e3]
  exact ⟨rfl, rfl⟩
theorem spoilTy_nil (w : World) : Calls Try.prog 54 #[.slice none 0 0] w fun e w' => e = .returned (.tuple #[]) ∧ w = w' := by
  go_enter Try.func54, Try.ntmps54
  go_wp2_with fail
  go_loop [2] (fun i => i = .int .i64 0) (fun _ => 0)
  case atStart => rfl
  case round =>
    obtain rfl := hrel
    go_wp2_with fail
    go_end0
    exact ⟨rfl, rfl⟩
set_option maxHeartbeats 1000000 in
theorem spoilTy_sl (g cp : Nat) (l : List Ty) (w : World) (h : Hid (TySl w g 0 l)) (hg : g < w.heap.size) (hf : Hid (∀ o, w.frozen? ⟨g, o, none⟩ = false)) (hl : l.length ≤ 1099511627776) :
    Calls Try.prog 54 #[.slice (some ⟨g, 0, none⟩) l.length cp] w fun e w' => e = .returned (.tuple #[]) ∧ Bar (fun k => k = g) w w' := by
  go_enter Try.func54, Try.ntmps54
  go_wp2_with fail
  go_loopw [2] (fun i wr => ∃ j : Nat, j ≤ l.length ∧ i = .int .i64 j ∧ Hid (Bar (fun k => k = g) w wr ∧ (∀ o, wr.frozen? ⟨g, o, none⟩ = false) ∧ ∀ k, j ≤ k → k < l.length → wr.cell? ⟨g, k * 9 + 1, none⟩ = some (.int .i64 (l.getD k ty0).v))) (fun i _ => l.length - (intOf i).toNat)
  case atStart => exact ⟨0, by omega, rfl, Lib.hid ⟨Bar.refl _ _, hf.out, fun k _ hk => by have := (h.out k hk).2.1; simpa using this⟩⟩
  case round =>
    obtain ⟨j, hj, rfl, hI⟩ := hrel
    by_cases hlt : j < l.length
    · have hc := hI.out.2.2 j (Nat.le_refl _) hlt
      have hz : wr.frozen? ⟨g, j * 9 + 1, none⟩ = false := hI.out.2.1 _
      generalize (l.getD j ty0).v = t at hc
      have hlt' : (j : Int) < (l.length : Int) := by omega
      have hj0 : (0 : Int) ≤ (j : Int) := by omega
      have hgr : g < wr.heap.size := by have := hI.out.1.size; omega
      go_wp2_with fail
      go_roundw
      case rel =>
        refine ⟨j + 1, by omega, by go_num, Lib.hid ⟨hI.out.1.trans (Bar.set (S := fun k => k = g) _ _ rfl) fun _ _ hs => hs, fun o => by rw [World.frozen?_setCell]; exact hI.out.2.1 o, fun k hk hk2 => ?_⟩⟩
        rw [World.cell?_setCell_other _ _ _ _ (by intro e; injection e with _ e2; simp at e2; omega)]
        exact hI.out.2.2 k (by omega) hk2
      case measure => simp [intOf]; omega
    · go_wp2_with fail
      go_end0
      exact ⟨rfl, hI.out.1⟩
theorem spoilTy_any (B : Nat) (v : Value) (l : List Ty) (w : World) (h : Hid (OwnT B w v l)) (hl : l.length ≤ 1099511627776) :
    Calls Try.prog 54 #[v] w fun e w' => e = .returned (.tuple #[]) ∧ Bar (fun k => v.ownBlock = some k) w w' := by
  rcases h.out.cases with ⟨rfl, rfl⟩ | ⟨g, c, rfl, hB, hg, _, hs, hf⟩
  · exact (spoilTy_nil w).mono fun e w' ⟨h1, h2⟩ => ⟨h1, h2 ▸ Bar.refl _ _⟩
  · exact (spoilTy_sl g c l w (Lib.hid hs) hg (Lib.hid hf) hl).mono fun e w' ⟨h1, h2⟩ => ⟨h1, h2.os, h2.tape, h2.output, h2.size, fun k hk hn => h2.block k hk (fun e => hn (by rw [e]; rfl))⟩
set_option maxHeartbeats 1000000 in
theorem spoilType_any (B : Nat) (v : Value) (l : List Ty) (w : World) (h : Hid (OwnT B w v l)) (hl : l.length ≤ 1099511627776) :
    Calls Try.prog 20 #[.agg #[v]] w fun e w' => e = .returned (.tuple #[]) ∧ Bar (fun k => v.ownBlock = some k) w w' := by
  have k := Lib.hid fun (W : World) (hb : Below w.heap.size w W) => (spoilTy_any B v l W (Lib.hid (h.out.below hb)) hl).mono fun e w' hh => (show e = .returned (.tuple #[]) ∧ Bar (fun k => v.ownBlock = some k) w w' from ⟨hh.1, (Bar.of_below (S := fun k => v.ownBlock = some k) hb).trans hh.2 fun _ _ hk => hk⟩)
  obtain ⟨a, n, c, rfl⟩ := ownT_sl h.out
  go_enter Try.func20, Try.ntmps20
  go_wp2_with fail
  refine (k.out _ (by (repeat' (first | with_reducible exact Below.refl _ _ | with_reducible assumption | with_reducible apply Below.setCell | with_reducible apply Below.alloc | with_reducible apply Below.drew | with_reducible apply below_drewN | with_reducible exact Nat.le_refl _ | (simp; done) | (simp; omega) | omega | exact Nat.le_refl _)))).mono ?_
  rintro e w1 ⟨rfl, hb⟩
  have hb := Lib.hid hb
  go_wp2_with fail
  go_end0
  exact ⟨rfl, hb.out⟩
theorem own_bt : (49 : TypeId) ≠ 47 := by decide
/-- a bind more, behind those that there are: it lies in the block that was made last. -/
theorem op_bnh {ops : Array Oper} {rest : List Oper} {o : Oper} {a : Act} {Q : Exit → Act → World → Prop} (hgd : o.guard = none) (s x : Operand) (W Z : World) (B : Nat) (hB : B ≤ Z.heap.size) (hZ : Below Z.heap.size Z W) (ov : Value) (l : List Bn) (y : Bn) (arr : Array Value)
    (ho : o.op = .call { callee := .builtin .append, args := #[s, x], argTypes := #[22, 22] })
    (hs : a.eval s = ov) (g0 : Nat) (hg0 : g0 = W.heap.size) (hx : a.eval x = .slice (some ⟨g0, 0, none⟩) 1 1) (harr : arr.toList = bnL1 y) (hown : OwnB B Z ov l) (hlen : l.length ≤ 1759218604400)
    (h : ∀ g c w', OwnB B w' (.slice (some ⟨g, 0, none⟩) (l.length + 1) c) (l ++ [y]) → Bar (fun k => ov.ownBlock = some k) Z w' → wpList Try.prog ops Q rest (a.put o.dst (.slice (some ⟨g, 0, none⟩) (l.length + 1) c)) w') :
    wpList Try.prog ops Q (o :: rest) a (W.alloc (.cells arr 49)) := by
  obtain ⟨i0, hi, hz0, hz1, hz2⟩ := info_parts infoB
  have hy : bnL [y] = bnL1 y := by simp [bnL]
  have hsz := hZ.size
  refine wpList_append_own _ hgd s x 22 ho B 49 i0 (.agg #[.int .i64 0, .bool false, .slice none 0 0, .int .i64 0, .int .i64 0, .int .i64 0, .int .i64 0, .int .i64 0]) 8 80 Try.underlying22 hi hz0 hz1 hz2 rfl (by decide) ov l.length (bnL l) hs (World.ownsRow.alloc (hown.below hZ) _) ⟨W.heap.size, 0, none⟩ 1 1 (bnL [y]) (by rw [hx, hg0]) (bnL_len [y]) ?_ (bnL_one [y]) (by unfold maxLen; omega) (by omega) (by simp; omega) ?_
  · intro j u hj
    have e : (⟨W.heap.size, 0, none⟩ : Addr).add j = ⟨W.heap.size, j, none⟩ := by simp [Addr.add]; try omega
    rw [e, World.cell?_alloc_at _ _ _ _ rfl, ← hj, hy, ← harr, Array.getElem?_toList]
  · intro v' w' hown' hgr hnil
    have hown2 : OwnB B w' v' (l ++ [y]) := by unfold OwnB; rw [bnL_app, List.length_append]; exact hown'
    rcases hown2.cases with ⟨_, h0⟩ | ⟨g, c, rfl, _⟩
    · simp at h0
    · rw [List.length_append, List.length_singleton] at hown2 ⊢
      exact h g c w' hown2 (((Bar.of_below (S := fun k => ov.ownBlock = some k) hZ).trans (Bar.of_below (S := fun k => ov.ownBlock = some k) (below_alc W _)) fun _ _ hs => hs).trans (Bar.of_grown hgr) fun _ _ hs => hs)
/-- what CopyBinds has copied: binds of its own, each with a type of its own. -/
def CbI (B : Nat) (w : World) (v : Value) (xs ys : List Bn) : Prop := OwnB B w v ys ∧ coreL ys = coreL xs ∧ ∀ y ∈ ys, OwnT B w (.slice y.ad y.n y.c) y.ns ∧ y.n ≤ 140737488351232
theorem CbI.below {B : Nat} {w w1 : World} {v : Value} {xs ys : List Bn} (h : CbI B w v xs ys) (hb : Below w.heap.size w w1) : CbI B w1 v xs ys := ⟨h.1.below hb, h.2.1, fun y hy => ⟨(h.2.2 y hy).1.below hb, (h.2.2 y hy).2⟩⟩
theorem CbI.arg {B : Nat} {w : World} {a : Option Addr} {n c : Nat} {xs ys : List Bn} (h : CbI B w (.slice a n c) xs ys) : BnArg w a n ys := h.1.arg fun y hy => ⟨(h.2.2 y hy).1.arg, (h.2.2 y hy).2⟩
theorem ownB_sl {B : Nat} {w : World} {v : Value} {l : List Bn} (h : OwnB B w v l) : ∃ a n c, v = .slice a n c := by
  rcases h.cases with ⟨rfl, _⟩ | ⟨g, c, rfl, _⟩ <;> exact ⟨_, _, _, rfl⟩
theorem coreL_take {xs : List Bn} {j : Nat} (hj : j < xs.length) : coreL (xs.take (j + 1)) = coreL (xs.take j) ++ [(xs.getD j bn0).core] := by
  unfold coreL
  rw [List.take_succ_eq_append_getElem hj, List.map_append]
  have e : xs.getD j bn0 = xs[j] := by rw [List.getD_eq_getElem?_getD, List.getElem?_eq_getElem hj]; rfl
  rw [e]; rfl
theorem CbI.more {B : Nat} {wr w1 w3 : World} {v v' : Value} {xs ys : List Bn} {j : Nat} {a' : Option Addr} {c' : Nat} (hj : j < xs.length) (h : CbI B wr v (xs.take j) ys) (hB : Below wr.heap.size wr w1) (hT : OwnT B w3 (.slice a' (xs.getD j bn0).n c') (xs.getD j bn0).ns) (hn : (xs.getD j bn0).n ≤ 140737488351232)
    (hO : OwnB B w3 v' (ys ++ [{ (xs.getD j bn0) with ad := a', c := c' }])) (hb : Bar (fun k => v.ownBlock = some k) w1 w3) : CbI B w3 v' (xs.take (j + 1)) (ys ++ [{ (xs.getD j bn0) with ad := a', c := c' }]) := by
  obtain ⟨h1, h2, h3⟩ := h
  refine ⟨hO, ?_, fun y hy => ?_⟩
  · rw [coreL_take hj, ← h2]
    unfold coreL
    rw [List.map_append]; rfl
  · rcases List.mem_append.1 hy with hy | hy
    · exact ⟨hb.own ((h3 y hy).1.below hB) fun k hk hk' => own_ne (h1.below hB) ((h3 y hy).1.below hB) own_bt k hk' hk, (h3 y hy).2⟩
    · simp only [List.mem_singleton] at hy
      subst hy
      exact ⟨hT, hn⟩
set_option maxHeartbeats 1000000 in
theorem copyBinds_nil (a : Option Addr) (c : Nat) (w : World) : Calls Try.prog 12 #[.slice a 0 c] w fun e w' => ∃ v ys, e = .returned v ∧ CbI w.heap.size w' v [] ys ∧ Below w.heap.size w w' := by
  go_enter Try.func12, Try.ntmps12
  go_wp2_with fail
  go_loopw [3, 4] (fun v i wr => v = .slice none 0 0 ∧ i = .int .i64 0 ∧ wr = w) (fun _ _ _ => 0)
  case atStart => exact ⟨rfl, rfl, rfl⟩
  case round =>
    obtain ⟨rfl, rfl, rfl⟩ := hrel
    go_wp2_with fail
    go_ret
    exact ⟨.slice none 0 0, [], rfl, ⟨OwnB.nil _ _, rfl, fun y hy => by cases hy⟩, Below.refl _ _⟩
set_option maxRecDepth 100000 in
set_option maxHeartbeats 4000000 in
theorem copyBinds_sl (b off cp : Nat) (xs : List Bn) (w : World) (h : Hid (BnSl w b off xs)) (hbs : b < w.heap.size) (hl : xs.length ≤ 1759218604400) (hxn : Hid (∀ x ∈ xs, x.n * 72 ≤ 140737488351232)) :
    Calls Try.prog 12 #[.slice (some ⟨b, off, none⟩) xs.length cp] w fun e w' => ∃ v ys, e = .returned v ∧ CbI w.heap.size w' v xs ys ∧ Below w.heap.size w w' := by
  go_enter Try.func12, Try.ntmps12
  go_wp2_with fail
  go_loopw [3, 4] (fun v i wr => ∃ j : Nat, j ≤ xs.length ∧ i = .int .i64 j ∧ Below w.heap.size w wr ∧ ∃ ys, Hid (CbI w.heap.size wr v (xs.take j) ys)) (fun _ i _ => xs.length - (intOf i).toNat)
  case atStart => exact ⟨0, by omega, rfl, Below.refl _ _, [], Lib.hid ⟨OwnB.nil _ _, rfl, fun y hy => by cases hy⟩⟩
  case round =>
    obtain ⟨j, hj, rfl, hbw', ys, hI⟩ := hrel
    have hbw := Lib.hid hbw'
    have hws := hbw'.size
    clear hbw'
    obtain ⟨va, vn, vc, hv⟩ := ownB_sl hI.out.1
    subst hv
    have hyl : ys.length ≤ j := by
      have := congrArg List.length hI.out.2.1
      unfold coreL at this
      rw [List.length_map, List.length_map, List.length_take] at this
      omega
    by_cases hlt : j < xs.length
    · obtain ⟨hA, hX, hn⟩ := h.out.below hbw.out hbs j hlt
      have hXn := hxn.out _ (getB_mem hlt)
      have hmore := Lib.hid fun (w1 w3 : World) (v' : Value) (a' : Option Addr) (c' : Nat) => CbI.more (B := w.heap.size) (wr := wr) (w1 := w1) (w3 := w3) (v' := v') (a' := a') (c' := c') hlt hI.out
      obtain ⟨x, hx⟩ : ∃ x, xs.getD j bn0 = x := ⟨_, rfl⟩
      rw [hx] at hA hX hn hXn hmore
      obtain ⟨e0, e1, e2, e3, e4, e5, e6, e7⟩ := hA
      have hbr : b < wr.heap.size := by omega
      have hlt' : (j : Int) < (xs.length : Int) := by omega
      have hj0 : (0 : Int) ≤ (j : Int) := by omega
      have kC := Lib.hid fun (W : World) (hb : Below wr.heap.size wr W) => copyType_any x.ad x.n x.c x.ns W (Lib.hid (hX.below hb)) hXn
      have hnx := Lib.hid hX.1
      have hO := Lib.hid hI.out.1
      clear hX hx
      go_wp2_with fail
      refine (kC.out _ (below_alc wr _)).mono ?_
      rintro e w1 ⟨v, rfl, hv, hb1⟩
      obtain ⟨ta, tn, tc, hve⟩ := ownT_sl hv
      subst hve
      have htn : tn = x.n := by rw [hnx.out]; exact hv.arg.1
      subst htn
      have hw1 : Below wr.heap.size wr w1 := belT (below_alc wr _) hb1
      have hs1 := hb1.size
      simp at hs1
      have c0 : w1.cell? ⟨wr.heap.size, 0, none⟩ = some (.int .i64 x.v) := carry hb1 (by simp) (by simp)
      have c1 : w1.cell? ⟨wr.heap.size, 1, none⟩ = some (.bool x.ir) := carry hb1 (by simp) (by simp)
      have c2 : w1.cell? ⟨wr.heap.size, 2, none⟩ = some (.slice x.ad x.n x.c) := carry hb1 (by simp) (by simp)
      have c3 : w1.cell? ⟨wr.heap.size, 3, none⟩ = some (.int .i64 x.r.a) := carry hb1 (by simp) (by simp)
      have c4 : w1.cell? ⟨wr.heap.size, 4, none⟩ = some (.int .i64 x.r.b) := carry hb1 (by simp) (by simp)
      have c5 : w1.cell? ⟨wr.heap.size, 5, none⟩ = some (.int .i64 x.r.c) := carry hb1 (by simp) (by simp)
      have c6 : w1.cell? ⟨wr.heap.size, 6, none⟩ = some (.int .i64 x.r.d) := carry hb1 (by simp) (by simp)
      have c7 : w1.cell? ⟨wr.heap.size, 7, none⟩ = some (.int .i64 x.r.t) := carry hb1 (by simp) (by simp)
      have f2 : w1.frozen? ⟨wr.heap.size, 2, none⟩ = false := by rw [hb1.frozen (p := ⟨wr.heap.size, 2, none⟩) (by simp)]; simp [go_sem]
      have hT1 := Lib.hid (show OwnT (w.heap.size) (w1.setCell ⟨wr.heap.size, 2, none⟩ (.slice ta x.n tc)) (.slice ta x.n tc) x.ns from ownT_le (ownT_put hv (by simp)) (by simp; omega))
      clear hv hb1 e0 e1 e2 e3 e4 e5 e6 e7
      go_wp2_with (at_builtin; refine op_bnh rfl (.tmp 20) (.tmp 22) (w1.setCell ⟨wr.heap.size, 2, none⟩ (.slice ta x.n tc)) (w1.setCell ⟨wr.heap.size, 2, none⟩ (.slice ta x.n tc)) w.heap.size (by simp; omega) (Below.refl _ _) _ ys { x with ad := ta, c := tc } _ rfl rfl _ (by first | (simp; done) | (simp; omega)) rfl rfl (OwnB.below hO.out (by (repeat' (first | with_reducible exact Below.refl _ _ | with_reducible assumption | with_reducible apply Below.setCell | with_reducible apply Below.alloc | with_reducible apply Below.drew | with_reducible apply below_drewN | with_reducible exact Nat.le_refl _ | (simp; done) | (simp; omega) | omega | exact Nat.le_refl _)))) (by omega) ?_)
      intro g3 c3' w3 hO3 hBar3
      have hT3 : OwnT w.heap.size w3 (.slice ta x.n tc) x.ns := hBar3.own hT1.out fun k hk hk' => own_ne (OwnB.below hO.out (show Below wr.heap.size wr (w1.setCell ⟨wr.heap.size, 2, none⟩ (.slice ta x.n tc)) by (repeat' (first | with_reducible exact Below.refl _ _ | with_reducible assumption | with_reducible apply Below.setCell | with_reducible apply Below.alloc | with_reducible apply Below.drew | with_reducible apply below_drewN | with_reducible exact Nat.le_refl _ | (simp; done) | (simp; omega) | omega | exact Nat.le_refl _)))) hT1.out own_bt k hk' hk
      have hI3 := Lib.hid (hmore.out _ w3 _ ta tc (show Below wr.heap.size wr (w1.setCell ⟨wr.heap.size, 2, none⟩ (.slice ta x.n tc)) by (repeat' (first | with_reducible exact Below.refl _ _ | with_reducible assumption | with_reducible apply Below.setCell | with_reducible apply Below.alloc | with_reducible apply Below.drew | with_reducible apply below_drewN | with_reducible exact Nat.le_refl _ | (simp; done) | (simp; omega) | omega | exact Nat.le_refl _))) hT3 hn hO3 hBar3)
      have hB3 := Lib.hid (hbw.out.trans ((show Below wr.heap.size wr (w1.setCell ⟨wr.heap.size, 2, none⟩ (.slice ta x.n tc)) by (repeat' (first | with_reducible exact Below.refl _ _ | with_reducible assumption | with_reducible apply Below.setCell | with_reducible apply Below.alloc | with_reducible apply Below.drew | with_reducible apply below_drewN | with_reducible exact Nat.le_refl _ | (simp; done) | (simp; omega) | omega | exact Nat.le_refl _))).mono hws) |>.trans (hBar3.below (by simp; omega) fun k hk => (own_lt hO.out k hk).1))
      clear hT3 hO3 hBar3 c0 c1 c2 c3 c4 c5 c6 c7 f2
      go_wp2_with fail
      go_roundw
      case rel => exact ⟨j + 1, by omega, by go_num, hB3.out, _, hI3⟩
      case measure => simp [intOf]; omega
    · have hfin := Lib.hid (show CbI w.heap.size wr (.slice va vn vc) xs ys from by have := hI.out; rwa [List.take_of_length_le (by omega)] at this)
      go_wp2_with fail
      go_ret
      exact ⟨_, ys, rfl, hfin.out, hbw.out⟩
theorem copyBinds_any (a : Option Addr) (n c : Nat) (xs : List Bn) (w : World) (h : Hid (BnArg w a n xs)) (hl : n ≤ 1759218604400) (hxn : Hid (∀ x ∈ xs, x.n * 72 ≤ 140737488351232)) :
    Calls Try.prog 12 #[.slice a n c] w fun e w' => ∃ v ys, e = .returned v ∧ CbI w.heap.size w' v xs ys ∧ Below w.heap.size w w' := by
  obtain ⟨rfl, rfl | ⟨b, off, rfl, h1, h2⟩⟩ := h.out
  · exact copyBinds_nil _ _ _
  · exact copyBinds_sl b off c xs w (Lib.hid h1) h2 hl hxn
end Go.Proofs.Ytjhmdobmbajcgaa
