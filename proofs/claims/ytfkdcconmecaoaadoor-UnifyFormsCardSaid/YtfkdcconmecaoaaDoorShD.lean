/- Shapes: flat, Type, Fits. -/
import Derived.Test.YtfkdcconmecaoaaDoorShC
import Derived.Test.YtfkdcconmecaoaaDoorTyO
import Derived.Deep.RegionHeld3
namespace Go.Proofs.YtfkdcconmecaoaaDoor
open Go.RowKit
set_option linter.unusedVariables false
set_option linter.unusedSimpArgs false

theorem step_ty {ops : Array Oper} {o : Oper} {a : Act} {K : Act → World → Prop} {Q : Exit → Act → World → Prop} {E : Prop} (hgd : o.guard = none) (s x : Operand) (W : World) (B : Nat) (hB : B ≤ W.heap.size) (ov : Value) (l ys : List Ty) (arr : Array Value)
    (ho : o.op = .call { callee := .builtin .append, args := #[s, x], argTypes := #[22, 22] })
    (hs : a.eval s = ov) (m : Nat) (hm : m = ys.length) (hx : a.eval x = .slice (some ⟨W.heap.size, 0, none⟩) m m) (harr : arr.toList = tyL ys) (hown : OwnT B W ov l) (hlen : (l.length + ys.length) * 72 ≤ 140737488355328)
    (h : ∀ v' w', OwnT B w' v' (l ++ ys) → Below B W w' → K (a.put o.dst v') w') :
    if Region.wanted o (yielded ops a.tmps) = true then Oper.wp Tryd.prog o a (W.alloc (.cells arr 38)) K Q else E := by
  subst hm
  have hw : Region.wanted o (yielded ops a.tmps) = true := by simp [Region.wanted, hgd]
  rw [if_pos hw]
  obtain ⟨i0, hi, hz0, hz1, hz2⟩ := info_parts infoTy
  obtain ⟨v', w', hrun, r1, hgr, _⟩ := run_append_own (P := Tryd.prog) (W.alloc (.cells arr 38)) B 22 o.type 38 i0 _ 9 72 Tryd.underlying22 hi hz0 hz1 hz2 rfl (by decide) ov l.length (tyL l) (World.ownsRow.alloc hown _) ⟨W.heap.size, 0, none⟩ ys.length ys.length (tyL ys) (tyL_len ys) (by
    intro j u hj
    have e : (⟨W.heap.size, 0, none⟩ : Addr).add j = ⟨W.heap.size, j, none⟩ := by simp [Addr.add]; try omega
    rw [e, World.cell?_alloc_at _ _ _ _ rfl, ← hj, ← harr, Array.getElem?_toList]) (tyL_one ys) (by unfold maxLen; omega) (by omega) (by simp; omega)
  unfold Oper.wp
  simp [execOp, ho, resolve, invoke, builtin, hs, hx, hrun, Result.andThen]
  refine h v' w' (by unfold OwnT; rw [tyL_app, List.length_append]; exact r1) ?_
  have hsz := hgr.size
  simp at hsz
  refine ⟨hgr.os, hgr.tape, hgr.output, by omega, fun k hk => ?_⟩
  rw [hgr.block k (by simp; omega) ?_]
  · exact Below.heap_alloc W _ k (by omega)
  · intro e
    rcases hown.2 with ⟨rfl, _⟩ | ⟨g, cap, cur, rfl, hg, _⟩
    · simp [Value.ownBlock] at e
    · simp [Value.ownBlock] at e; omega
theorem tyL_one1 (t : Ty) : tyL [t] = [.int .i64 t.k, .int .i64 t.v, .int .i64 t.a, .int .i64 t.b, .int .i64 t.c0, .int .i64 t.c1, .int .i64 t.c2, .int .i64 t.c3, .int .i64 t.t] := rfl
def FlPost (W0 : World) (w : World) (l : List Ty) (T : TT) (e : Ending) (w' : World) : Prop := ∃ v', e = .returned v' ∧ OwnT W0.heap.size w' v' (l ++ fl l.length T) ∧ Below W0.heap.size w w'
theorem flS_go {W0 w W W' : World} {g : Nat} {k v : Value} (hg : g < W0.heap.size) (h : W.cell? ⟨g, 0, none⟩ = some k ∧ W.cell? ⟨g, 1, none⟩ = some v ∧ Below W0.heap.size w W) (hb : Below W0.heap.size W W') : W'.cell? ⟨g, 0, none⟩ = some k ∧ W'.cell? ⟨g, 1, none⟩ = some v ∧ Below W0.heap.size w W' :=
  ⟨(hb.cell (p := ⟨g, 0, none⟩) hg).trans h.1, (hb.cell (p := ⟨g, 1, none⟩) hg).trans h.2.1, h.2.2.trans hb⟩
theorem flS_alc {W0 w W : World} {g : Nat} {k v : Value} {o : Obj} (hg : g < W0.heap.size) (hs : W0.heap.size ≤ w.heap.size) (h : W.cell? ⟨g, 0, none⟩ = some k ∧ W.cell? ⟨g, 1, none⟩ = some v ∧ Below W0.heap.size w W) : (W.alloc o).cell? ⟨g, 0, none⟩ = some k ∧ (W.alloc o).cell? ⟨g, 1, none⟩ = some v ∧ Below W0.heap.size w (W.alloc o) :=
  flS_go hg h ((below_alc W o).mono (Nat.le_trans hs h.2.2.size))
theorem ownT_some {B : Nat} {w : World} {v : Value} {l : List Ty} (h : OwnT B w v l) (hl : 0 < l.length) : ∃ G c, v = .slice (some ⟨G, 0, none⟩) l.length c ∧ B ≤ G ∧ G < w.heap.size ∧ TySl w G 0 l ∧ l.length ≤ c := by
  rcases h.cases with ⟨_, rfl⟩ | ⟨G, c, h1, h2, h3, h4, h5, _⟩
  · simp at hl
  · exact ⟨G, c, h1, h2, h3, h5, h4⟩
set_option maxRecDepth 100000 in
set_option maxHeartbeats 8000000 in
theorem flat_any (W0 : World) : ∀ (T : TT) (g : Nat) (w : World) (v : Value) (l : List Ty), Hid (Shp W0 T g) → Hid (Below W0.heap.size W0 w) → Hid (OwnT W0.heap.size w v l) → l.length + T.sz ≤ 256 →
    Calls Tryd.prog 62 #[ptrS g, v] w (FlPost W0 w l T) := by
  intro T
  induction T with
  | base k =>
    intro g w v l hS hbw hown hlen
    have hB := hS.out.blk
    obtain ⟨pa, pb, hB⟩ := hB
    have hC := shC_of hB
    have hgl := hS.out.lt
    have c0 : w.cell? ⟨g, 0, none⟩ = some (.int .i64 k) := (hbw.out.cell (p := ⟨g, 0, none⟩) hgl).trans hC.c0
    have c1 : w.cell? ⟨g, 1, none⟩ = some (.int .i64 0) := (hbw.out.cell (p := ⟨g, 1, none⟩) hgl).trans hC.c1
    have hws := hbw.out.size
    have hk := hS.out.1
    have hk3 : (k == 3) = false := beq_eq_false_iff_ne.2 (by omega)
    have hk4 : (k != 3) = true := bne_iff_ne.2 (by omega)
    clear hk
    clear hB hC
    unfold ptrS
    have hfin : Hid (∀ v' W, OwnT W0.heap.size W v' (l ++ [⟨k, 0, 0, 0, 0, 0, 0, 0, 0⟩]) → Below W0.heap.size w W → FlPost W0 w l (.base k) (.returned v') W) := Lib.hid fun v' W h1 h2 => ⟨v', rfl, h1, h2⟩
    have hln : Hid ((l.length + [(⟨k, 0, 0, 0, 0, 0, 0, 0, 0⟩ : Ty)].length) * 72 ≤ 140737488355328) := Lib.hid (by simp only [List.length_cons, List.length_nil]; simp only [TT.sz] at hlen; omega)
    go_enter Tryd.func62, Tryd.ntmps62
    go_wp2_with fail
    go_region_held3 (fun W => W.cell? ⟨g, 0, none⟩ = some (.int .i64 k) ∧ W.cell? ⟨g, 1, none⟩ = some (.int .i64 0) ∧ Below W0.heap.size w W)
      (first | exact hS2 | exact flS_alc hgl hws (by assumption) | exact ⟨c0, c1, (Below.refl _ _).drew⟩)
      (first | (refine step_ty rfl (.tmp 11) (.tmp 21) _ W0.heap.size (show W0.heap.size ≤ w.drew.heap.size from hws) _ l [⟨k, 0, 0, 0, 0, 0, 0, 0, 0⟩] _ rfl rfl 1 rfl rfl rfl (show OwnT W0.heap.size w.drew v l from hown.out) hln.out ?_; intro v' w2 hown2 hb2; have hS2 := flS_go (w := w) (W := w.drew) hgl ⟨c0, c1, (Below.refl W0.heap.size w).drew⟩ hb2))
    go_wp2_with fail
    go_ret
    exact hfin.out _ _ hown2 hS2.2.2
  | var x =>
    intro g w v l hS hbw hown hlen
    have hB := hS.out.blk
    obtain ⟨pa, pb, hB⟩ := hB
    have hC := shC_of hB
    have hgl := hS.out.lt
    have c0 : w.cell? ⟨g, 0, none⟩ = some (.int .i64 2) := (hbw.out.cell (p := ⟨g, 0, none⟩) hgl).trans hC.c0
    have c1 : w.cell? ⟨g, 1, none⟩ = some (.int .i64 x) := (hbw.out.cell (p := ⟨g, 1, none⟩) hgl).trans hC.c1
    have hws := hbw.out.size
    clear hB hC
    unfold ptrS
    have hfin : Hid (∀ v' W, OwnT W0.heap.size W v' (l ++ [⟨2, x, 0, 0, 0, 0, 0, 0, 0⟩]) → Below W0.heap.size w W → FlPost W0 w l (.var x) (.returned v') W) := Lib.hid fun v' W h1 h2 => ⟨v', rfl, h1, h2⟩
    have hln : Hid ((l.length + [(⟨2, x, 0, 0, 0, 0, 0, 0, 0⟩ : Ty)].length) * 72 ≤ 140737488355328) := Lib.hid (by simp only [List.length_cons, List.length_nil]; simp only [TT.sz] at hlen; omega)
    go_enter Tryd.func62, Tryd.ntmps62
    go_wp2_with fail
    go_region_held3 (fun W => W.cell? ⟨g, 0, none⟩ = some (.int .i64 2) ∧ W.cell? ⟨g, 1, none⟩ = some (.int .i64 x) ∧ Below W0.heap.size w W)
      (first | exact hS2 | exact flS_alc hgl hws (by assumption) | exact ⟨c0, c1, (Below.refl _ _).drew⟩)
      (first | (refine step_ty rfl (.tmp 11) (.tmp 21) _ W0.heap.size (show W0.heap.size ≤ w.drew.heap.size from hws) _ l [⟨2, x, 0, 0, 0, 0, 0, 0, 0⟩] _ rfl rfl 1 rfl rfl rfl (show OwnT W0.heap.size w.drew v l from hown.out) hln.out ?_; intro v' w2 hown2 hb2; have hS2 := flS_go (w := w) (W := w.drew) hgl ⟨c0, c1, (Below.refl W0.heap.size w).drew⟩ hb2))
    go_wp2_with fail
    go_ret
    exact hfin.out _ _ hown2 hS2.2.2
  | fn a r b iha ihb =>
    intro g w v l hS hbw hown hlen
    obtain ⟨ga, gb, hB, hA, hBb⟩ := hS.out
    have hC := shC_of hB
    have hgl := hS.out.lt
    have c0 : w.cell? ⟨g, 0, none⟩ = some (.int .i64 3) := (hbw.out.cell (p := ⟨g, 0, none⟩) hgl).trans hC.c0
    have c2 : w.cell? ⟨g, 2, none⟩ = some (ptrS ga) := (hbw.out.cell (p := ⟨g, 2, none⟩) hgl).trans hC.c2
    have c3 : w.cell? ⟨g, 3, none⟩ = some (ptrS gb) := (hbw.out.cell (p := ⟨g, 3, none⟩) hgl).trans hC.c3
    have c4 : w.cell? ⟨g, 4, none⟩ = some (.int .i64 r.a) := (hbw.out.cell (p := ⟨g, 4, none⟩) hgl).trans hC.c4
    have c5 : w.cell? ⟨g, 5, none⟩ = some (.int .i64 r.b) := (hbw.out.cell (p := ⟨g, 5, none⟩) hgl).trans hC.c5
    have c6 : w.cell? ⟨g, 6, none⟩ = some (.int .i64 r.c) := (hbw.out.cell (p := ⟨g, 6, none⟩) hgl).trans hC.c6
    have c7 : w.cell? ⟨g, 7, none⟩ = some (.int .i64 r.d) := (hbw.out.cell (p := ⟨g, 7, none⟩) hgl).trans hC.c7
    have c8 : w.cell? ⟨g, 8, none⟩ = some (.int .i64 r.t) := (hbw.out.cell (p := ⟨g, 8, none⟩) hgl).trans hC.c8
    have hws := hbw.out.size
    have pa := a.sz_pos
    have pb := b.sz_pos
    simp only [TT.sz] at hlen
    have kA := Lib.hid (iha ga w v l (Lib.hid hA) hbw hown (by omega))
    obtain ⟨la, hla⟩ : ∃ x, l ++ fl l.length a = x := ⟨_, rfl⟩
    have hlal : la.length = l.length + a.sz := by rw [← hla, List.length_append, fl_len]
    have kB := Lib.hid fun (W : World) (v' : Value) (h1 : Below W0.heap.size W0 W) (h2 : OwnT W0.heap.size W v' la) => ihb gb W v' la (Lib.hid hBb) (Lib.hid h1) (Lib.hid h2) (by omega)
    obtain ⟨lb, hlb⟩ : ∃ x, la ++ fl la.length b = x := ⟨_, rfl⟩
    have hlbl : lb.length = la.length + b.sz := by rw [← hlb, List.length_append, fl_len]
    unfold FlPost at kA kB
    rw [hla] at kA
    rw [hlb] at kB
    have hfin : Hid (∀ v' W, OwnT W0.heap.size W v' (lb ++ [fnT ((la.length : Int) - 1) ((lb.length : Int) - 1) r]) → Below W0.heap.size w W → FlPost W0 w l (.fn a r b) (.returned v') W) := Lib.hid fun v' W h1 h2 => ⟨v', rfl, by
      rw [fl_fn, ← hlal]
      rw [show l ++ (fl l.length a ++ fl la.length b ++ [fnT (((la.length : Nat) : Int) - 1) (((la.length + b.sz : Nat) : Int) - 1) r]) = lb ++ [fnT (((la.length : Nat) : Int) - 1) (((la.length + b.sz : Nat) : Int) - 1) r] by rw [← hlb, ← hla]; simp only [List.append_assoc], ← hlbl]
      exact h1, h2⟩
    have hla1 : 0 < la.length := by omega
    have hlb1 : 0 < lb.length := by omega
    have hlb2 : lb.length ≤ 256 := by omega
    have hla2 : la.length ≤ 256 := by omega
    have hln : Hid (∀ t : Ty, (lb.length + [t].length) * 72 ≤ 140737488355328) := Lib.hid fun t => by simp only [List.length_cons, List.length_nil]; omega
    have hcarry := Lib.hid fun (W : World) (o : Nat) (x : Value) (h : Below W0.heap.size w W) (hx : w.cell? ⟨g, o, none⟩ = some x) => (show W.cell? ⟨g, o, none⟩ = some x from (h.cell (p := ⟨g, o, none⟩) hgl).trans hx)
    clear hB hC hA hBb iha ihb hlal hlbl hla hlb pa pb
    unfold ptrS at *
    go_enter Tryd.func62, Tryd.ntmps62
    go_wp2_with fail
    refine kA.out.mono ?_
    rintro e w1 ⟨v1, rfl, ho1, hb1⟩
    have hB1 := Lib.hid hb1
    have d3 := hcarry.out _ _ _ hb1 c3; have d4 := hcarry.out _ _ _ hb1 c4; have d5 := hcarry.out _ _ _ hb1 c5; have d6 := hcarry.out _ _ _ hb1 c6; have d7 := hcarry.out _ _ _ hb1 c7; have d8 := hcarry.out _ _ _ hb1 c8
    have ho1' := Lib.hid ho1
    obtain ⟨G1, cp1, rfl, _⟩ := ownT_some ho1 hla1
    clear ho1 hb1
    go_wp2_with fail
    refine (kB.out _ _ (hbw.out.trans hB1.out) ho1'.out).mono ?_
    rintro e w2 ⟨v2, rfl, ho2, hb2⟩
    have hB2 := Lib.hid (hB1.out.trans hb2)
    have g4 := hcarry.out _ _ _ hB2.out c4; have g5 := hcarry.out _ _ _ hB2.out c5; have g6 := hcarry.out _ _ _ hB2.out c6; have g7 := hcarry.out _ _ _ hB2.out c7; have g8 := hcarry.out _ _ _ hB2.out c8
    have ho2' := Lib.hid ho2
    obtain ⟨G2, cp2, rfl, _⟩ := ownT_some ho2 hlb1
    have hws2 := Lib.hid (show W0.heap.size ≤ w2.heap.size from Nat.le_trans hws hB2.out.size)
    clear ho2 hb2 c0 c2 c3 c4 c5 c6 c7 c8 d3 d4 d5 d6 d7 d8
    go_wp2_with (at_builtin; refine op_ty rfl (.tmp 38) (.tmp 48) w2 W0.heap.size hws2.out _ lb [fnT ((la.length : Int) - 1) ((lb.length : Int) - 1) r] _ rfl rfl 1 rfl rfl rfl ho2'.out (hln.out _) ?_; intro v' w3 hown3 hb3 _)
    go_wp2_with fail
    go_ret
    exact hfin.out _ _ hown3 (hB2.out.trans hb3)
theorem ty_make (c : Nat) (hc : c ≤ 512) (W : World) : (Instr.makeSlice 22 (.int .i64 0) (.int .i64 c)).run Tryd.prog W = .ok (.slice (some ⟨W.heap.size, 0, none⟩) 0 c) (W.alloc (.cells (madeCells (Value.agg #[.int .i64 0, .int .i64 0, .int .i64 0, .int .i64 0, .int .i64 0, .int .i64 0, .int .i64 0, .int .i64 0, .int .i64 0]).cells (c * 9)) 38)) := by
  obtain ⟨i0, hi, hz0, hz1, hz2⟩ := info_parts infoTy
  have h := run_make (P := Tryd.prog) W 22 38 i0 _ Tryd.underlying22 hi hz0 .i64 .i64 0 (c : Int) (by omega) (by omega) (by rw [hz2]; omega) (by omega)
  rw [h, hz1]; simp
theorem ty_made (c : Nat) (hc : c ≤ 512) (B : Nat) (W : World) (hB : B ≤ W.heap.size) : OwnT B (W.alloc (.cells (madeCells (Value.agg #[.int .i64 0, .int .i64 0, .int .i64 0, .int .i64 0, .int .i64 0, .int .i64 0, .int .i64 0, .int .i64 0, .int .i64 0]).cells (c * 9)) 38)) (.slice (some ⟨W.heap.size, 0, none⟩) 0 c) [] :=
  World.ownsRow_made W _ c hB (by unfold maxLen; omega) (size_madeCells _ _)
theorem ownT_le {B B' : Nat} {w : World} {v : Value} {l : List Ty} (h : OwnT B' w v l) (hB : B ≤ B') : OwnT B w v l := by
  refine ⟨h.1, ?_⟩
  rcases h.2 with h | ⟨g, cap, cur, e1, e2, e3⟩
  · exact .inl h
  · exact .inr ⟨g, cap, cur, e1, by omega, e3⟩
theorem ownT_set {B : Nat} {w : World} {v : Value} {l : List Ty} (h : OwnT (B + 1) w v l) {o : Nat} {x : Value} : OwnT B (w.setCell ⟨B, o, none⟩ x) v l := by
  refine ownT_le (B' := B + 1) ⟨h.1, ?_⟩ (by omega)
  rcases h.2 with h | ⟨g, cap, cur, e1, e2, e3, e4⟩
  · exact .inl h
  · exact .inr ⟨g, cap, cur, e1, e2, by rw [Deep.blk_setCell_other _ _ _ _ (show g ≠ B by omega)]; exact e3, e4⟩
set_option maxHeartbeats 2000000 in
theorem shType_any (T : TT) (g : Nat) (w : World) (hS : Hid (Shp w T g)) (hz : T.sz ≤ 256) :
    Calls Tryd.prog 33 #[ptrS g] w fun e w' => ∃ v, e = .returned (.agg #[v]) ∧ OwnT w.heap.size w' v (fl 0 T) ∧ Below w.heap.size w w' := by
  obtain ⟨pa, pb, hB⟩ := hS.out.blk
  have c9 := (shC_of hB).c9
  have hgl := hS.out.lt
  have hmk := fun (W : World) => ty_make T.sz (by omega) W
  have kF := Lib.hid fun (W : World) (v : Value) (h1 : Below (w.alloc (.cells #[.slice none 0 0] 24)).heap.size (w.alloc (.cells #[.slice none 0 0] 24)) W) (h2 : OwnT (w.alloc (.cells #[.slice none 0 0] 24)).heap.size W v []) => flat_any (w.alloc (.cells #[.slice none 0 0] 24)) T g W v [] (Lib.hid (hS.out.keep (below_alc w _))) (Lib.hid h1) (Lib.hid h2) (by simp; omega)
  unfold FlPost at kF
  simp only [List.nil_append, List.length_nil] at kF
  have hL1 : 0 < (fl 0 T).length := by rw [fl_len]; exact T.sz_pos
  generalize fl 0 T = L at kF hL1
  unfold ptrS
  have e1 : (w.alloc (.cells #[.slice none 0 0] 24)).heap.size = w.heap.size + 1 := by simp
  clear hB
  go_enter Tryd.func33, Tryd.ntmps33
  go_wp2_with fail
  refine (kF.out _ _ ?_ ?_).mono ?_
  · exact below_alc _ _
  · have h := ty_made T.sz (by omega) (w.alloc (.cells #[.slice none 0 0] 24)).heap.size (w.alloc (.cells #[.slice none 0 0] 24)) (Nat.le_refl _)
    rw [e1] at h ⊢
    exact h
  rintro e w1 ⟨v, rfl, ho, hb⟩
  rw [e1] at ho hb
  have hbb := (show Below (w.heap.size + 1) (w.alloc (.cells #[.slice none 0 0] 24)) w1 from (by refine Below.trans ?_ hb; exact (below_alc _ _).mono (Nat.le_of_eq e1.symm)))
  have hB := Lib.hid ((below_alc w _).trans (hbb.mono (Nat.le_succ _)))
  have ho' := Lib.hid ho
  have q0 : w1.cell? ⟨w.heap.size, 0, none⟩ = some (.slice none 0 0) := by rw [hbb.cell (p := ⟨w.heap.size, 0, none⟩) (Nat.lt_succ_self _)]; simp
  have q1 : w1.frozen? ⟨w.heap.size, 0, none⟩ = false := by rw [hbb.frozen (p := ⟨w.heap.size, 0, none⟩) (Nat.lt_succ_self _)]; simp [go_sem]
  obtain ⟨G, cp, rfl, _⟩ := ownT_some ho hL1
  clear hb ho hbb e1 hmk
  go_wp2_with fail
  exact bodyPost_ret (v := .agg #[.slice (some ⟨G, 0, none⟩) L.length cp]) (by simp [results, Tryd.results33, go_sem, *]) rfl ⟨_, rfl, ownT_set ho'.out, hB.out.setCell (Nat.le_refl _) _⟩
theorem shFits_any (T : TT) (g : Nat) (w : World) (hS : Hid (Shp w T g)) :
    Calls Tryd.prog 32 #[ptrS g] w fun e w' => e = .returned (.bool T.fits) ∧ Below w.heap.size w w' := by
  obtain ⟨pa, pb, hB⟩ := hS.out.blk
  have c9 := (shC_of hB).c9
  have c10 := (shC_of hB).c10
  have hgl := hS.out.lt
  have hv : Hid (T.fits = (decide (T.sz ≤ 256) && T.cnt)) := Lib.hid rfl
  generalize T.fits = F at hv
  generalize T.sz = n at c9 hv
  generalize T.cnt = c at c10 hv
  unfold ptrS
  clear hB hS
  by_cases hn : (n : Int) ≤ 256
  · have hv2 : Hid (F = c) := Lib.hid (by rw [hv.out, decide_eq_true (by omega)]; rfl)
    go_enter Tryd.func32, Tryd.ntmps32
    go_wp2_with fail
    go_ret
    exact ⟨ret_bb hv2.out.symm, Below.refl _ _⟩
  · have hv2 : Hid (F = false) := Lib.hid (by rw [hv.out, decide_eq_false (by omega)]; rfl)
    go_enter Tryd.func32, Tryd.ntmps32
    go_wp2_with fail
    go_ret
    exact ⟨ret_bb hv2.out.symm, Below.refl _ _⟩
end Go.Proofs.YtfkdcconmecaoaaDoor
