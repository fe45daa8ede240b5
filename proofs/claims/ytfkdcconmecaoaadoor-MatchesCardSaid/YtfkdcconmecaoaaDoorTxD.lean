/- typ.writer's row and write, walked. -/
import Derived.Test.YtfkdcconmecaoaaDoorTxA
import Derived.Test.YtfkdcconmecaoaaDoorTyI
namespace Go.Proofs.YtfkdcconmecaoaaDoor
open Go.RowKit Go.Maps
set_option linter.unusedVariables false
set_option linter.unusedSimpArgs false

theorem rowK_neg {a b c d t : Int} (h : t < 0) (s s' : List UInt8) : rowK a b c d t s = rowK a b c d t s' := by
  unfold rowK; rw [if_neg (by omega), if_neg (by omega)]
theorem ba_list (x : ByteArray) : (⟨x.data.toList.toArray⟩ : ByteArray) = x := by apply ba_ext; simp
theorem enterBy : ∀ (xs : Array Value) (W : World), (callFunc 89 xs).run Tryd.prog W = .ok (.enter 89 xs) W := fun _ _ => by kernel_rfl
theorem bar_ne {w w' : World} {g m o : Nat} {v : Value} (hb : Bar (fun k => k = m) w w') (hc : w.cell? ⟨g, o, none⟩ = some v) (hm : ∃ es ck, w.heap[m]? = some (.map es ck)) : w'.cell? ⟨g, o, none⟩ = some v := by
  obtain ⟨es, ck, hm⟩ := hm
  refine hb.cell hc ?_
  rintro rfl
  unfold World.cell? at hc
  simp [hm] at hc
theorem row_bar {w w' : World} {g m : Nat} {r : Rw} (hb : Bar (fun k => k = m) w w') (h : RowAt w g r) (hm : ∃ es ck, w.heap[m]? = some (.map es ck)) : RowAt w' g r := by
  obtain ⟨h0, h1, h2, h3, h4, h5⟩ := h
  exact ⟨by have := hb.size; omega, bar_ne hb h1 hm, bar_ne hb h2 hm, bar_ne hb h3 hm, bar_ne hb h4 hm, bar_ne hb h5 hm⟩
set_option maxRecDepth 100000 in
set_option maxHeartbeats 8000000 in
theorem wrow_any (w0 w : World) (g p1 m1 p2 m2 b off cp : Nat) (ts : List Ty) (l : List UInt8) (n1 n2 : List Int) (ra rb rc rd rt : Int) (h : Hid (WrW w0 w g p1 m1 p2 m2 b off cp ts l n1 n2)) (hT : Hid (TabW w0)) (hr : Rw.may ⟨ra, rb, rc, rd, rt⟩ = true) (hn : n2.length ≤ 10000) :
    Calls Tryd.prog 92 #[.pointer (some ⟨g, 0, none⟩), .agg #[.int .i64 ra, .int .i64 rb, .int .i64 rc, .int .i64 rd, .int .i64 rt]] w fun e w' => e = .returned (.string (rowK ra rb rc rd rt (Lib.itoa (posI n2 rt : Nat)))) ∧ WrW w0 w' g p1 m1 p2 m2 b off cp ts l n1 (addT n2 rt) ∧ BarW w0.heap.size g m1 m2 w w' := by
  have hm := of_decide_eq_true (show mayR ra rb rc rd rt = true from hr)
  have hbA := below_alc w (.cells #[.int .i64 ra, .int .i64 rb, .int .i64 rc, .int .i64 rd, .int .i64 rt] 36)
  have kT := Lib.hid fun (W : World) (tl : Int) (h1 : 0 ≤ tl ∧ tl ≤ 1000000) (hW : Below w0.heap.size w0 W) => textk_any ra rb rc rd rt tl W hr h1 (Lib.hid (tab_keep hT.out hW (Nat.le_refl _)))
  have hW1 := Lib.hid (h.out.below hbA)
  have hR1 : RowAt (w.alloc (.cells #[.int .i64 ra, .int .i64 rb, .int .i64 rc, .int .i64 rd, .int .i64 rt] 36)) w.heap.size ⟨ra, rb, rc, rd, rt⟩ := row_lit _ _ _ ⟨ra, rb, rc, rd, rt⟩ rfl
  unfold TextPost at kT
  by_cases ht : rt < 0
  · have ha : addT n2 rt = n2 := by unfold addT; rw [if_pos ht]
    rw [ha, rowK_neg ht _ (Lib.itoa 0)]
    have kT0 := Lib.hid fun (W : World) hW => kT.out W 0 (by omega) hW
    generalize rowK ra rb rc rd rt (Lib.itoa 0) = TX at kT0 ⊢
    clear kT hR1 ha hm hr
    go_enter Tryd.func92, Tryd.ntmps92
    go_wp2_with fail
    refine (kT0.out _ hW1.out.bel).mono ?_
    rintro e w2 ⟨rfl, hb2⟩
    have hW2 := Lib.hid (hW1.out.below hb2)
    have hBr := Lib.hid (Bar.of_below (S := fun k => w0.heap.size ≤ k ∧ (k = g ∨ k = m1 ∨ k = m2 ∨ IsU8 w k)) (belT hbA hb2))
    clear hbA hb2
    go_wp2_with fail
    go_ret
    exact ⟨rfl, hW2.out, hBr.out⟩
  · have ha : addT n2 rt = addI n2 rt := by unfold addT; rw [if_neg ht]
    rw [ha]
    have hpl := posI_lt (l := n2) (v := rt)
    have kN := Lib.hid fun (W : World) (hW : NmAt W p2 m2 n2) => byFirst1_any p2 m2 n2 rt W (Lib.hid hW) (by omega) (by omega)
    have kT1 := Lib.hid fun (W : World) hW => kT.out W (posI n2 rt : Nat) (by omega) hW
    generalize rowK ra rb rc rd rt (Lib.itoa (posI n2 rt : Nat)) = TX at kT1 ⊢
    have hg := hW1.out.wr.cells
    have hk := enterBy
    clear kT ha hm hr hpl
    unfold byV at hg
    go_enter Tryd.func92, Tryd.ntmps92
    go_upto_region 3 with fail
    generalize hX : w.alloc (.cells #[.int .i64 ra, .int .i64 rb, .int .i64 rc, .int .i64 rd, .int .i64 rt] 36) = X at hbA hW1 hR1 hg ⊢
    clear hX
    generalize w.heap.size = kx at hR1 ⊢
    have hd : Below X.heap.size X X.drew := (Below.refl _ _).drew
    have hW2 := Lib.hid (hW1.out.below hd)
    have hS : ∀ W, RowAt W kx ⟨ra, rb, rc, rd, rt⟩ → ∀ q1 q2 l', WrtAt W w0.heap.size g l' q1 q2 (byV p2) → (W.cell? ⟨g, 4, none⟩ = some (.func (.func 89) #[] #[.pointer (some ⟨p2, 0, none⟩)]) ∧ W.cell? ⟨kx, 0, none⟩ = some (.int .i64 ra) ∧ W.cell? ⟨kx, 1, none⟩ = some (.int .i64 rb) ∧ W.cell? ⟨kx, 2, none⟩ = some (.int .i64 rc) ∧ W.cell? ⟨kx, 3, none⟩ = some (.int .i64 rd) ∧ W.cell? ⟨kx, 4, none⟩ = some (.int .i64 rt) ∧ g < W.heap.size ∧ kx < W.heap.size) := fun W hR q1 q2 l' hw =>
      ⟨hw.cells.2.2.2.2, hR.2.1, hR.2.2.1, hR.2.2.2.1, hR.2.2.2.2.1, hR.2.2.2.2.2, hw.cells.1, hR.1⟩
    have hR2 := hR1.below hd
    refine wp_region_held_drew (S := fun W => W.cell? ⟨g, 4, none⟩ = some (.func (.func 89) #[] #[.pointer (some ⟨p2, 0, none⟩)]) ∧ W.cell? ⟨kx, 0, none⟩ = some (.int .i64 ra) ∧ W.cell? ⟨kx, 1, none⟩ = some (.int .i64 rb) ∧ W.cell? ⟨kx, 2, none⟩ = some (.int .i64 rc) ∧ W.cell? ⟨kx, 3, none⟩ = some (.int .i64 rd) ∧ W.cell? ⟨kx, 4, none⟩ = some (.int .i64 rt) ∧ g < W.heap.size ∧ kx < W.heap.size) (by kernel_rfl) (hS _ hR2 _ _ _ hW2.out.wr) (fun hHeld => ?_)
    have hB2 := belT hbA hd
    generalize X.drew = W2 at hHeld hW2 hR2 hB2 ⊢
    clear hd hW1 hR1 hg hbA
    refine rg_take 0 (some 10) (v := ?vr1) rfl rfl (by kernel_rfl) (by kernel_rfl) (by kernel_rfl) (fun _ _ _ h => h) (by rfl) ?hyr1 (by assumption) ?_
    case hyr1 => intro W hSW; (try dsimp only at hSW); go_simp; (try with_reducible rfl)
    try simp only [Act.put, List.setIfInBounds_toArray, List.set_cons_zero, List.set_cons_succ]
    refine rg_take 1 (some 11) (v := ?vr2) rfl rfl (by kernel_rfl) (by kernel_rfl) (by kernel_rfl) (fun _ _ _ h => h) (by rfl) ?hyr2 (by assumption) ?_
    case hyr2 => intro W hSW; (try dsimp only at hSW); go_simp; (try with_reducible rfl)
    try simp only [Act.put, List.setIfInBounds_toArray, List.set_cons_zero, List.set_cons_succ]
    refine rg_take 2 (some 12) (v := ?vr3) rfl rfl (by kernel_rfl) (by kernel_rfl) (by kernel_rfl) (fun _ _ _ h => h) (by rfl) ?hyr3 (by assumption) ?_
    case hyr3 => intro W hSW; (try dsimp only at hSW); go_simp; (try with_reducible rfl)
    try simp only [Act.put, List.setIfInBounds_toArray, List.set_cons_zero, List.set_cons_succ]
    refine rg_take 3 (some 13) (v := ?vr4) rfl rfl (by kernel_rfl) (by kernel_rfl) (by kernel_rfl) (fun _ _ _ h => h) (by rfl) ?hyr4 (by assumption) ?_
    case hyr4 => intro W hSW; (try dsimp only at hSW); go_simp; (try with_reducible rfl)
    try simp only [Act.put, List.setIfInBounds_toArray, List.set_cons_zero, List.set_cons_succ]
    refine rg_take 4 (some 14) (v := ?vr5) rfl rfl (by kernel_rfl) (by kernel_rfl) (by kernel_rfl) (fun _ _ _ h => h) (by rfl) ?hyr5 (by assumption) ?_
    case hyr5 => intro W hSW; (try dsimp only at hSW); go_simp; (try with_reducible rfl)
    try simp only [Act.put, List.setIfInBounds_toArray, List.set_cons_zero, List.set_cons_succ]
    refine rg_take 5 (some 15) (v := ?vr6) rfl rfl (by kernel_rfl) (by kernel_rfl) (by kernel_rfl) (fun _ _ _ h => h) (by rfl) ?hyr6 (by assumption) ?_
    case hyr6 => intro W hSW; (try dsimp only at hSW); go_simp; (try with_reducible rfl)
    try simp only [Act.put, List.setIfInBounds_toArray, List.set_cons_zero, List.set_cons_succ]
    refine rg_take 6 (some 16) (v := ?vr7) rfl rfl (by kernel_rfl) (by kernel_rfl) (by kernel_rfl) (fun _ _ _ h => h) (by rfl) ?hyr7 (by assumption) ?_
    case hyr7 => intro W hSW; (try dsimp only at hSW); go_simp; (try with_reducible rfl)
    try simp only [Act.put, List.setIfInBounds_toArray, List.set_cons_zero, List.set_cons_succ]
    refine rg_one 7 rfl (by kernel_rfl) (by rfl) (fun K hK => ?_)
    go_simp
    (go_at_call 89; refine (kN.out _ hW2.out.nb).mono ?_; rintro e w3 ⟨rfl, hn3, hb3⟩)
    refine hK.out _ _ (hS _ (row_bar hb3 hR2 hW2.out.nb.2.blk) _ _ _ (hW2.out.wr.bar1 hb3 hW2.out.nb.2.blk)) (fun hHeld7 => ?_)
    clear hK K hHeld
    try simp only [Act.put, List.setIfInBounds_toArray, List.set_cons_zero, List.set_cons_succ]
    have hW3 := Lib.hid (hW2.out.named2 hn3 hb3)
    have hR3 := row_bar hb3 hR2 hW2.out.nb.2.blk
    refine rg_one 8 rfl (by kernel_rfl) (by rfl) (fun K hK => ?_)
    go_simp
    (go_at_call 107; refine (kT1.out _ hW3.out.bel).mono ?_; rintro e w4 ⟨rfl, hb4⟩)
    refine hK.out _ _ (hS _ (hR3.below hb4) _ _ _ (hW3.out.wr.below hb4)) (fun hHeld8 => ?_)
    clear hK K hHeld7
    try simp only [Act.put, List.setIfInBounds_toArray, List.set_cons_zero, List.set_cons_succ]
    refine rg_take 9 (some 4) (v := ?vr8) rfl rfl (by kernel_rfl) (by kernel_rfl) (by kernel_rfl) (fun _ _ _ h => h) (by rfl) ?hyr8 (by assumption) ?_
    case hyr8 => intro W hSW; (try dsimp only at hSW); go_simp; (try with_reducible rfl)
    try simp only [Act.put, List.setIfInBounds_toArray, List.set_cons_zero, List.set_cons_succ]
    refine wpAnyH_done (by kernel_rfl) ?_ _
    have hW4 := Lib.hid (hW3.out.below hb4)
    have hBr := Lib.hid (show BarW w0.heap.size g m1 m2 w w4 from
      BarW.trans (Bar.of_below (S := fun k => w0.heap.size ≤ k ∧ (k = g ∨ k = m1 ∨ k = m2 ∨ IsU8 w k)) hB2) (BarW.trans (BarW.of2 hb3 hW3.out.mb) (Bar.of_below hb4)))
    go_wp2_with fail
    go_ret
    exact ⟨rfl, hW4.out, hBr.out⟩
/-- a type's node in a block of its own. -/
def NdB (w : World) (k : Nat) (t : Ty) : Prop := w.heap[k]? = some (.cells (tyL1 t).toArray 38 (0, 0))
theorem NdB.cells {w : World} {k : Nat} {t : Ty} (h : NdB w k t) : k < w.heap.size ∧ w.cell? ⟨k, 0, none⟩ = some (.int .i64 t.k) ∧ w.cell? ⟨k, 1, none⟩ = some (.int .i64 t.v) ∧ w.cell? ⟨k, 2, none⟩ = some (.int .i64 t.a) ∧ w.cell? ⟨k, 3, none⟩ = some (.int .i64 t.b) ∧ w.cell? ⟨k, 4, none⟩ = some (.int .i64 t.c0) ∧ w.cell? ⟨k, 5, none⟩ = some (.int .i64 t.c1) ∧ w.cell? ⟨k, 6, none⟩ = some (.int .i64 t.c2) ∧ w.cell? ⟨k, 7, none⟩ = some (.int .i64 t.c3) ∧ w.cell? ⟨k, 8, none⟩ = some (.int .i64 t.t) := by
  have e := fun j => Lib.cell_of_heap (show w.heap[k]? = some (.cells (tyL1 t).toArray 38 (0, 0)) from h) j
  exact ⟨(Array.getElem?_eq_some_iff.1 h).1, (e 0).trans rfl, (e 1).trans rfl, (e 2).trans rfl, (e 3).trans rfl, (e 4).trans rfl, (e 5).trans rfl, (e 6).trans rfl, (e 7).trans rfl, (e 8).trans rfl⟩
theorem NdB.below {w w' : World} {k : Nat} {t : Ty} (h : NdB w k t) (hb : Below w.heap.size w w') : NdB w' k t := (hb.block k (Array.getElem?_eq_some_iff.1 h).1).trans h
theorem NdB.bar1 {w w' : World} {k m : Nat} {t : Ty} (h : NdB w k t) (hb : Bar (fun k => k = m) w w') (hm : ∃ es ck, w.heap[m]? = some (.map es ck)) : NdB w' k t := by
  obtain ⟨es, ck, hm⟩ := hm
  refine (hb.block k (Array.getElem?_eq_some_iff.1 h).1 ?_).trans h
  rintro rfl
  unfold NdB at h; rw [hm] at h; cases h
theorem NdB.wrote {w0 w w' : World} {g p1 m1 p2 m2 b off cp k : Nat} {ts : List Ty} {l : List UInt8} {n1 n2 : List Int} {t : Ty} (h : NdB w k t) (hw : WrW w0 w g p1 m1 p2 m2 b off cp ts l n1 n2) (hb : BarW w0.heap.size g m1 m2 w w') : NdB w' k t := by
  have h' : w.heap[k]? = some (.cells (tyL1 t).toArray 38 (0, 0)) := h
  obtain ⟨q, v, hg⟩ : ∃ q v, w.heap[g]? = some (.cells #[q, v, .slice (some ⟨b, off, none⟩) ts.length cp, byV p1, byV p2] 139 (0, 0)) := by
    rcases hw.wr with ⟨_, v, h, _⟩ | ⟨_, v, h, _⟩ <;> exact ⟨_, v, h⟩
  obtain ⟨es1, ck1, hm1⟩ := hw.na.2.blk
  obtain ⟨es2, ck2, hm2⟩ := hw.nb.2.blk
  refine (hb.block k (Array.getElem?_eq_some_iff.1 h).1 ?_).trans h
  rintro ⟨_, rfl | rfl | rfl | ⟨cs, fr, h2⟩⟩
  · rw [hg] at h'; injection h' with h'; injection h' with _ h' _; exact absurd h' (by decide)
  · rw [hm1] at h'; cases h'
  · rw [hm2] at h'; cases h'
  · rw [h2] at h'; injection h' with h'; injection h' with _ h' _; exact absurd h' (by decide)
def WrPost (w0 w : World) (g p1 m1 p2 m2 b off cp : Nat) (ts : List Ty) (l : List UInt8) (n1 n2 : List Int) (e : Ending) (w' : World) : Prop :=
  e = .returned (.tuple #[]) ∧ WrW w0 w' g p1 m1 p2 m2 b off cp ts l n1 n2 ∧ BarW w0.heap.size g m1 m2 w w'
theorem ndB_new (w : World) (t : Ty) : NdB (w.alloc (.cells #[.int .i64 t.k, .int .i64 t.v, .int .i64 t.a, .int .i64 t.b, .int .i64 t.c0, .int .i64 t.c1, .int .i64 t.c2, .int .i64 t.c3, .int .i64 t.t] 38)) w.heap.size t := alloc_last _ _
theorem barW_alloc {B g m1 m2 : Nat} (w : World) (o : Obj) : BarW B g m1 m2 w (w.alloc o) := Bar.of_below (below_alc _ _)
set_option maxRecDepth 100000 in
set_option maxHeartbeats 16000000 in
theorem write_any (w0 : World) (g p1 m1 p2 m2 b off cp : Nat) (ts : List Ty) (hT : Hid (TabW w0)) (hts : Hid (TySl w0 b off ts)) (hbw : b < w0.heap.size) (hl256 : ts.length ≤ 256) :
    ∀ (T : TT) (i : Nat) (w : World) (l : List UInt8) (n1 n2 : List Int), Hid (WrW w0 w g p1 m1 p2 m2 b off cp ts l n1 n2) → SubAt ts T i → T.ok = true → n1.length + T.sz ≤ 1000 → n2.length + T.sz ≤ 1000 → l.length + T.sz * 600 ≤ 10000000 →
    Calls Tryd.prog 75 #[.pointer (some ⟨g, 0, none⟩), .int .i64 i] w (WrPost w0 w g p1 m1 p2 m2 b off cp ts (l ++ tx T n1 n2) (tvs T n1) (rvs T n2)) := by
  intro T
  induction T with
  | base k =>
    intro i w l n1 n2 h hs ho h1 h2 h3
    obtain ⟨hil, hnd⟩ := hs
    have hcell := (hts.out.below h.out.bel hbw) i hil
    rw [hnd] at hcell
    have hk : k = 0 ∨ k = 1 := by simpa [TT.ok] using ho
    have hA := Lib.hid (h.out.below (below_alc w (.cells #[.int .i64 k, .int .i64 0, .int .i64 0, .int .i64 0, .int .i64 0, .int .i64 0, .int .i64 0, .int .i64 0, .int .i64 0] 38)))
    obtain ⟨c0, c1, c2, _, _⟩ := h.out.wr.cells
    have hbl : b < w.heap.size := by have := h.out.bel.size; omega
    obtain ⟨e0, e1, e2, e3, e4, e5, e6, e7, e8⟩ := hcell
    unfold bsT at e0 e1 e2 e3 e4 e5 e6 e7 e8
    simp only [] at e0 e1 e2 e3 e4 e5 e6 e7 e8
    have hi1 : (0 : Int) ≤ (i : Int) := by omega
    have hi2 : (i : Int) < (ts.length : Int) := by omega
    unfold WrPost
    rcases hk with rfl | rfl
    · have kW := Lib.hid fun (W : World) (hw : WrW w0 W g p1 m1 p2 m2 b off cp ts l n1 n2) => wr_string w0.heap.size g l _ _ _ ⟨#[105, 110, 116]⟩ W (Lib.hid hw.wr) (by show l.length + 3 ≤ _; omega)
      have hfin := Lib.hid fun (W W' : World) (hw : WrW w0 W g p1 m1 p2 m2 b off cp ts l n1 n2) (hb0 : BarW w0.heap.size g m1 m2 w W) (hx : WrtAt W' w0.heap.size g (l ++ (⟨#[105, 110, 116]⟩ : ByteArray).data.toList) (.slice (some ⟨b, off, none⟩) ts.length cp) (byV p1) (byV p2)) (hb : BarU w0.heap.size g W W') => (show WrW w0 W' g p1 m1 p2 m2 b off cp ts (l ++ tx (.base 0) n1 n2) (tvs (.base 0) n1) (rvs (.base 0) n2) ∧ BarW w0.heap.size g m1 m2 w W' from ⟨hw.wrote hx hb, hb0.trans (BarW.ofU hb)⟩)
      clear h hnd h1 h2 h3 hts
      go_enter Tryd.func75, Tryd.ntmps75
      go_wp2_with fail
      refine (kW.out _ hA.out).mono ?_
      rintro e w2 ⟨rfl, hx, hb⟩
      have hF := Lib.hid (hfin.out _ _ hA.out (barW_alloc _ _) hx hb)
      clear hx hb
      go_wp2_with fail
      go_end0
      exact ⟨rfl, hF.out⟩
    · have kW := Lib.hid fun (W : World) (hw : WrW w0 W g p1 m1 p2 m2 b off cp ts l n1 n2) => wr_string w0.heap.size g l _ _ _ ⟨#[98, 111, 111, 108]⟩ W (Lib.hid hw.wr) (by show l.length + 4 ≤ _; omega)
      have hfin := Lib.hid fun (W W' : World) (hw : WrW w0 W g p1 m1 p2 m2 b off cp ts l n1 n2) (hb0 : BarW w0.heap.size g m1 m2 w W) (hx : WrtAt W' w0.heap.size g (l ++ (⟨#[98, 111, 111, 108]⟩ : ByteArray).data.toList) (.slice (some ⟨b, off, none⟩) ts.length cp) (byV p1) (byV p2)) (hb : BarU w0.heap.size g W W') => (show WrW w0 W' g p1 m1 p2 m2 b off cp ts (l ++ tx (.base 1) n1 n2) (tvs (.base 1) n1) (rvs (.base 1) n2) ∧ BarW w0.heap.size g m1 m2 w W' from ⟨hw.wrote hx hb, hb0.trans (BarW.ofU hb)⟩)
      clear h hnd h1 h2 h3 hts
      go_enter Tryd.func75, Tryd.ntmps75
      go_wp2_with fail
      refine (kW.out _ hA.out).mono ?_
      rintro e w2 ⟨rfl, hx, hb⟩
      have hF := Lib.hid (hfin.out _ _ hA.out (barW_alloc _ _) hx hb)
      clear hx hb
      go_wp2_with fail
      go_end0
      exact ⟨rfl, hF.out⟩
  | var v =>
    intro i w l n1 n2 h hs ho h1 h2 h3
    obtain ⟨hil, hnd⟩ := hs
    have hcell := (hts.out.below h.out.bel hbw) i hil
    rw [hnd] at hcell
    have hA := Lib.hid (h.out.below (below_alc w (.cells #[.int .i64 (vrT v).k, .int .i64 (vrT v).v, .int .i64 (vrT v).a, .int .i64 (vrT v).b, .int .i64 (vrT v).c0, .int .i64 (vrT v).c1, .int .i64 (vrT v).c2, .int .i64 (vrT v).c3, .int .i64 (vrT v).t] 38)))
    have hN := Lib.hid (ndB_new w (vrT v))
    have hB := Lib.hid (barW_alloc (B := w0.heap.size) (g := g) (m1 := m1) (m2 := m2) w (.cells #[.int .i64 (vrT v).k, .int .i64 (vrT v).v, .int .i64 (vrT v).a, .int .i64 (vrT v).b, .int .i64 (vrT v).c0, .int .i64 (vrT v).c1, .int .i64 (vrT v).c2, .int .i64 (vrT v).c3, .int .i64 (vrT v).t] 38))
    obtain ⟨c0, c1, c2, _, _⟩ := h.out.wr.cells
    have hbl : b < w.heap.size := by have := h.out.bel.size; omega
    obtain ⟨e0, e1, e2, e3, e4, e5, e6, e7, e8⟩ := hcell
    unfold vrT at e0 e1 e2 e3 e4 e5 e6 e7 e8 hA hB
    simp only [] at e0 e1 e2 e3 e4 e5 e6 e7 e8 hA hB
    have hi1 : (0 : Int) ≤ (i : Int) := by omega
    have hi2 : (i : Int) < (ts.length : Int) := by omega
    unfold WrPost
    have hv : 0 ≤ v ∧ v < 4096 := by unfold TT.ok at ho; simp only [Bool.and_eq_true, decide_eq_true_eq] at ho; exact ho
    unfold TT.sz at h1 h2 h3
    have hpl := posI_lt (l := n1) (v := v)
    have hil2 := itoa_len (posI n1 v : Nat) (by omega) (by omega)
    have kN := Lib.hid fun (W : World) (hW : NmAt W p1 m1 n1) => byFirst1_any p1 m1 n1 v W (Lib.hid hW) hv (by omega)
    have kI := Lib.hid fun (W : World) (hW : Below w0.heap.size w0 W) => itoa_any (posI n1 v : Nat) W (by omega) (by omega) (Lib.hid (tab_keep hT.out hW (Nat.le_refl _)))
    rw [show tx (.var v) n1 n2 = 116 :: Lib.itoa (posI n1 v : Nat) from rfl, show tvs (.var v) n1 = addI n1 v from rfl, show rvs (.var v) n2 = n2 from rfl]
    generalize Lib.itoa (posI n1 v : Nat) = IT at kI hil2 ⊢
    have kW := Lib.hid fun (W : World) (n : List Int) (hw : WrW w0 W g p1 m1 p2 m2 b off cp ts l n n2) => wr_string w0.heap.size g l _ _ _ ((⟨#[116]⟩ : ByteArray) ++ ⟨IT.toArray⟩) W (Lib.hid hw.wr) (by rw [ByteArray.size_append]; show l.length + (1 + IT.toArray.size) ≤ _; simp; omega)
    have hfin := Lib.hid fun (W W' : World) (n : List Int) (hw : WrW w0 W g p1 m1 p2 m2 b off cp ts l n n2) (hb0 : BarW w0.heap.size g m1 m2 w W) (hx : WrtAt W' w0.heap.size g (l ++ ((⟨#[116]⟩ : ByteArray) ++ ⟨IT.toArray⟩).data.toList) (.slice (some ⟨b, off, none⟩) ts.length cp) (byV p1) (byV p2)) (hb : BarU w0.heap.size g W W') => (show WrW w0 W' g p1 m1 p2 m2 b off cp ts (l ++ 116 :: IT) n n2 ∧ BarW w0.heap.size g m1 m2 w W' from ⟨hw.wrote (by simpa using hx) hb, hb0.trans (BarW.ofU hb)⟩)
    have hk := enterBy
    have hsum : ¬ 9223372036854775807 < 1 + IT.length := by omega
    clear h hnd h1 h2 h3 hts hpl ho
    go_enter Tryd.func75, Tryd.ntmps75
    go_upto_region 7 with fail
    generalize hX : w.alloc (.cells #[.int .i64 2, .int .i64 v, .int .i64 0, .int .i64 0, .int .i64 0, .int .i64 0, .int .i64 0, .int .i64 0, .int .i64 0] 38) = X at hA hB ⊢
    have hN : Hid (NdB X w.heap.size (vrT v)) := Lib.hid (by rw [← hX]; exact hN.out)
    clear hX e0 e1 e2 e3 e4 e5 e6 e7 e8 c0 c2
    generalize w.heap.size = kx at hN ⊢
    have hd : Below X.heap.size X X.drew := (Below.refl _ _).drew
    have hA2 := Lib.hid (hA.out.below hd)
    have hN2 := Lib.hid (hN.out.below hd)
    have hB2 := Lib.hid (hB.out.trans (Bar.of_below hd))
    have hS : ∀ W, NdB W kx (vrT v) → ∀ q1 q2 l', WrtAt W w0.heap.size g l' q1 (byV p1) q2 → (W.cell? ⟨g, 3, none⟩ = some (.func (.func 89) #[] #[.pointer (some ⟨p1, 0, none⟩)]) ∧ W.cell? ⟨kx, 1, none⟩ = some (.int .i64 v) ∧ g < W.heap.size ∧ kx < W.heap.size) := fun W hR q1 q2 l' hw => ⟨hw.cells.2.2.2.1, hR.cells.2.2.1, hw.cells.1, hR.cells.1⟩
    clear hA hN hB
    refine wp_region_held_drew (S := fun W => W.cell? ⟨g, 3, none⟩ = some (.func (.func 89) #[] #[.pointer (some ⟨p1, 0, none⟩)]) ∧ W.cell? ⟨kx, 1, none⟩ = some (.int .i64 v) ∧ g < W.heap.size ∧ kx < W.heap.size) (by kernel_rfl) (hS _ hN2.out _ _ _ hA2.out.wr) (fun hHeld => ?_)
    generalize X.drew = W2 at hHeld hA2 hN2 hB2 ⊢
    clear hd
    refine rg_take 0 (some 28) (v := ?vv1) rfl rfl (by kernel_rfl) (by kernel_rfl) (by kernel_rfl) (fun _ _ _ h => h) (by rfl) ?hyv1 (by assumption) ?_
    case hyv1 => intro W hSW; (try dsimp only at hSW); go_simp; (try with_reducible rfl)
    try simp only [Act.put, List.setIfInBounds_toArray, List.set_cons_zero, List.set_cons_succ]
    refine rg_take 1 (some 29) (v := ?vv2) rfl rfl (by kernel_rfl) (by kernel_rfl) (by kernel_rfl) (fun _ _ _ h => h) (by rfl) ?hyv2 (by assumption) ?_
    case hyv2 => intro W hSW; (try dsimp only at hSW); go_simp; (try with_reducible rfl)
    try simp only [Act.put, List.setIfInBounds_toArray, List.set_cons_zero, List.set_cons_succ]
    refine rg_take 2 (some 30) (v := ?vv3) rfl rfl (by kernel_rfl) (by kernel_rfl) (by kernel_rfl) (fun _ _ _ h => h) (by rfl) ?hyv3 (by assumption) ?_
    case hyv3 => intro W hSW; (try dsimp only at hSW); go_simp; (try with_reducible rfl)
    try simp only [Act.put, List.setIfInBounds_toArray, List.set_cons_zero, List.set_cons_succ]
    refine rg_take 3 (some 31) (v := ?vv4) rfl rfl (by kernel_rfl) (by kernel_rfl) (by kernel_rfl) (fun _ _ _ h => h) (by rfl) ?hyv4 (by assumption) ?_
    case hyv4 => intro W hSW; (try dsimp only at hSW); go_simp; (try with_reducible rfl)
    try simp only [Act.put, List.setIfInBounds_toArray, List.set_cons_zero, List.set_cons_succ]
    refine rg_take 4 (some 32) (v := ?vv5) rfl rfl (by kernel_rfl) (by kernel_rfl) (by kernel_rfl) (fun _ _ _ h => h) (by rfl) ?hyv5 (by assumption) ?_
    case hyv5 => intro W hSW; (try dsimp only at hSW); go_simp; (try with_reducible rfl)
    try simp only [Act.put, List.setIfInBounds_toArray, List.set_cons_zero, List.set_cons_succ]
    refine rg_take 5 (some 33) (v := ?vv6) rfl rfl (by kernel_rfl) (by kernel_rfl) (by kernel_rfl) (fun _ _ _ h => h) (by rfl) ?hyv6 (by assumption) ?_
    case hyv6 => intro W hSW; (try dsimp only at hSW); go_simp; (try with_reducible rfl)
    try simp only [Act.put, List.setIfInBounds_toArray, List.set_cons_zero, List.set_cons_succ]
    refine rg_take 6 (some 34) (v := ?vv7) rfl rfl (by kernel_rfl) (by kernel_rfl) (by kernel_rfl) (fun _ _ _ h => h) (by rfl) ?hyv7 (by assumption) ?_
    case hyv7 => intro W hSW; (try dsimp only at hSW); go_simp; (try with_reducible rfl)
    try simp only [Act.put, List.setIfInBounds_toArray, List.set_cons_zero, List.set_cons_succ]
    refine rg_take 7 (some 35) (v := ?vv8) rfl rfl (by kernel_rfl) (by kernel_rfl) (by kernel_rfl) (fun _ _ _ h => h) (by rfl) ?hyv8 (by assumption) ?_
    case hyv8 => intro W hSW; (try dsimp only at hSW); go_simp; (try with_reducible rfl)
    try simp only [Act.put, List.setIfInBounds_toArray, List.set_cons_zero, List.set_cons_succ]
    refine rg_take 8 (some 36) (v := ?vv9) rfl rfl (by kernel_rfl) (by kernel_rfl) (by kernel_rfl) (fun _ _ _ h => h) (by rfl) ?hyv9 (by assumption) ?_
    case hyv9 => intro W hSW; (try dsimp only at hSW); go_simp; (try with_reducible rfl)
    try simp only [Act.put, List.setIfInBounds_toArray, List.set_cons_zero, List.set_cons_succ]
    refine rg_one 9 rfl (by kernel_rfl) (by rfl) (fun K hK => ?_)
    go_simp
    (go_at_call 89; refine (kN.out _ hA2.out.na).mono ?_; rintro e w3 ⟨rfl, hn3, hb3⟩)
    refine hK.out _ _ (hS _ (hN2.out.bar1 hb3 hA2.out.na.2.blk) _ _ _ (hA2.out.wr.bar1 hb3 hA2.out.na.2.blk)) (fun hHeld9 => ?_)
    clear hK K hHeld
    try simp only [Act.put, List.setIfInBounds_toArray, List.set_cons_zero, List.set_cons_succ]
    have hA3 := Lib.hid (hA2.out.named1 hn3 hb3)
    have hN3 := Lib.hid (hN2.out.bar1 hb3 hA2.out.na.2.blk)
    have hB3 := Lib.hid (hB2.out.trans (BarW.of1 hb3 hA2.out.ma))
    refine rg_one 10 rfl (by kernel_rfl) (by rfl) (fun K hK => ?_)
    go_simp
    (go_at_call 91; refine (kI.out _ hA3.out.bel).mono ?_; rintro e w4 ⟨rfl, hb4⟩)
    refine hK.out _ _ (hS _ (hN3.out.below hb4) _ _ _ (hA3.out.wr.below hb4)) (fun hHeld10 => ?_)
    clear hK K hHeld9
    try simp only [Act.put, List.setIfInBounds_toArray, List.set_cons_zero, List.set_cons_succ]
    have hA4 := Lib.hid (hA3.out.below hb4)
    have hN4 := Lib.hid (hN3.out.below hb4)
    have hB4 := Lib.hid (hB3.out.trans (Bar.of_below hb4))
    refine rg_take 11 (some 39) (v := ?vv10) rfl rfl (by kernel_rfl) (by kernel_rfl) (by kernel_rfl) (fun _ _ _ h => h) (by rfl) ?hyv10 (by assumption) ?_
    case hyv10 => intro W hSW; (try dsimp only at hSW); go_simp; (try with_reducible rfl)
    try simp only [Act.put, List.setIfInBounds_toArray, List.set_cons_zero, List.set_cons_succ]
    refine rg_one 12 rfl (by kernel_rfl) (by rfl) (fun K hK => ?_)
    go_simp
    (go_at_call 90; refine (kW.out _ _ hA4.out).mono ?_; rintro e w5 ⟨rfl, hx5, hb5⟩)
    refine hK.out _ _ (hS _ (hN4.out.wrote hA4.out (BarW.ofU hb5)) _ _ _ hx5) (fun hHeld12 => ?_)
    clear hK K hHeld10
    try simp only [Act.put, List.setIfInBounds_toArray, List.set_cons_zero, List.set_cons_succ]
    refine wpAnyH_done (by kernel_rfl) ?_ _
    have hF := Lib.hid (hfin.out _ _ _ hA4.out hB4.out hx5 hb5)
    clear hx5 hb5
    go_wp2_with fail
    go_end0
    exact ⟨rfl, hF.out⟩
  | fn a r c iha ihb =>
    intro i w l n1 n2 h hs ho h1 h2 h3
    obtain ⟨hil, j, k, hnd, hji, hki, hsa, hsb⟩ := hs
    have hcell := (hts.out.below h.out.bel hbw) i hil
    rw [hnd] at hcell
    have hA := Lib.hid (h.out.below (below_alc w (.cells #[.int .i64 (fnT j k r).k, .int .i64 (fnT j k r).v, .int .i64 (fnT j k r).a, .int .i64 (fnT j k r).b, .int .i64 (fnT j k r).c0, .int .i64 (fnT j k r).c1, .int .i64 (fnT j k r).c2, .int .i64 (fnT j k r).c3, .int .i64 (fnT j k r).t] 38)))
    have hN := Lib.hid (ndB_new w (fnT j k r))
    have hB := Lib.hid (barW_alloc (B := w0.heap.size) (g := g) (m1 := m1) (m2 := m2) w (.cells #[.int .i64 (fnT j k r).k, .int .i64 (fnT j k r).v, .int .i64 (fnT j k r).a, .int .i64 (fnT j k r).b, .int .i64 (fnT j k r).c0, .int .i64 (fnT j k r).c1, .int .i64 (fnT j k r).c2, .int .i64 (fnT j k r).c3, .int .i64 (fnT j k r).t] 38))
    obtain ⟨c0, c1, c2, _, _⟩ := h.out.wr.cells
    have hbl : b < w.heap.size := by have := h.out.bel.size; omega
    obtain ⟨e0, e1, e2, e3, e4, e5, e6, e7, e8⟩ := hcell
    unfold fnT at e0 e1 e2 e3 e4 e5 e6 e7 e8 hA hB
    simp only [] at e0 e1 e2 e3 e4 e5 e6 e7 e8 hA hB
    have hi1 : (0 : Int) ≤ (i : Int) := by omega
    have hi2 : (i : Int) < (ts.length : Int) := by omega
    unfold WrPost
    unfold TT.ok at ho
    simp only [Bool.and_eq_true] at ho
    unfold TT.sz at h1 h2 h3
    have t1 := tvs_len a n1
    have t2 := rvs_len a n2
    have t3 := addT_len (rvs a n2) r.t
    have t4 := tx_len a n1 n2 ho.1.1 (by omega) (by omega)
    have t5 := rwT_len ho.1.2 (Lib.itoa (posI (rvs a n2) r.t : Nat)) (by have := itoa_len (posI (rvs a n2) r.t : Nat) (by omega) (by have := posI_lt (l := rvs a n2) (v := r.t); omega); omega)
    have kO := Lib.hid fun (W : World) (s : ByteArray) (l : List UInt8) (n n' : List Int) (hs : l.length + s.size ≤ 20000000) (hw : WrW w0 W g p1 m1 p2 m2 b off cp ts l n n') => wr_string w0.heap.size g l _ _ _ s W (Lib.hid hw.wr) (by omega)
    have kA := Lib.hid fun (W : World) (hw : WrW w0 W g p1 m1 p2 m2 b off cp ts (l ++ [40]) n1 n2) => iha j W (l ++ [40]) n1 n2 (Lib.hid hw) hsa ho.1.1 (by omega) (by omega) (by simp; omega)
    have kR := Lib.hid fun (W : World) (hw : WrW w0 W g p1 m1 p2 m2 b off cp ts (l ++ [40] ++ tx a n1 n2) (tvs a n1) (rvs a n2)) => wrow_any w0 W g p1 m1 p2 m2 b off cp ts (l ++ [40] ++ tx a n1 n2) (tvs a n1) (rvs a n2) r.a r.b r.c r.d r.t (Lib.hid hw) hT ho.1.2 (by omega)
    have kB := Lib.hid fun (W : World) (L : List UInt8) (hL : L.length ≤ l.length + 1 + a.sz * 600 + 503) (hw : WrW w0 W g p1 m1 p2 m2 b off cp ts L (tvs a n1) (addT (rvs a n2) r.t)) => ihb k W L (tvs a n1) (addT (rvs a n2) r.t) (Lib.hid hw) hsb ho.2 (by omega) (by omega) (by omega)
    have t6 := tx_len c (tvs a n1) (addT (rvs a n2) r.t) ho.2 (by omega) (by omega)
    have t7 : (rwT r (Lib.itoa (posI (rvs a n2) r.t : Nat))).length = (rowK r.a r.b r.c r.d r.t (Lib.itoa (posI (rvs a n2) r.t : Nat))).size := rfl
    have htx : Hid (tx (.fn a r c) n1 n2 = [40] ++ tx a n1 n2 ++ ([32, 45] ++ (rowK r.a r.b r.c r.d r.t (Lib.itoa (posI (rvs a n2) r.t : Nat))).data.toList ++ [32]) ++ tx c (tvs a n1) (addT (rvs a n2) r.t) ++ [41]) := Lib.hid rfl
    rw [t7] at t5
    rw [show tvs (.fn a r c) n1 = tvs c (tvs a n1) from rfl, show rvs (.fn a r c) n2 = rvs c (addT (rvs a n2) r.t) from rfl]
    have hl0 : l.length ≤ 10000000 := by omega
    have hT3 : a.sz * 600 + c.sz * 600 + l.length + 600 ≤ 10000000 := by omega
    generalize tx (.fn a r c) n1 n2 = TXF at htx ⊢
    generalize tx a n1 n2 = TA at kA kR htx t4
    generalize tx c (tvs a n1) (addT (rvs a n2) r.t) = TC at kB htx t6
    generalize rowK r.a r.b r.c r.d r.t (Lib.itoa (posI (rvs a n2) r.t : Nat)) = RK at kR htx t5
    have hsum1 : ¬ 9223372036854775807 < 2 + RK.size := by omega
    have hsum2 : ¬ 9223372036854775807 < 2 + RK.size + 1 := by omega
    unfold WrPost at kA kB
    clear h hnd h1 h2 h3 hts iha ihb hsa hsb t1 t2 t3 t7
    go_enter Tryd.func75, Tryd.ntmps75
    go_wp2_with fail
    refine (kO.out _ _ _ _ _ (by show l.length + 1 ≤ _; omega) hA.out).mono ?_
    rintro e w2 ⟨rfl, hx2, hb2⟩
    have hN2 := Lib.hid (hN.out.wrote hA.out (BarW.ofU hb2))
    have hB2 := Lib.hid (hB.out.trans (BarW.ofU hb2))
    have hA2 := Lib.hid (hA.out.wrote hx2 hb2)
    clear hx2 hb2 hA hN hB e0 e1 e2 e3 e4 e5 e6 e7 e8 c0 c1 c2
    generalize w.heap.size = kx at hN2 ⊢
    obtain ⟨y0, y1, y2, y3, y4, _⟩ := hN2.out.cells
    unfold fnT at y1 y2 y3 y4
    simp only [] at y1 y2 y3 y4
    go_wp2_with fail
    refine (kA.out _ hA2.out).mono ?_
    rintro e w3 ⟨rfl, hA3, hb3⟩
    have hN3 := Lib.hid (hN2.out.wrote hA2.out hb3)
    have hB3 := Lib.hid (hB2.out.trans hb3)
    have hA3 := Lib.hid hA3
    clear hb3 hN2 hB2 hA2 y0 y1 y2 y3 y4 kA
    go_upto_region 11 with fail
    have hd : Below w3.heap.size w3 w3.drew := (Below.refl _ _).drew
    have hA4 := Lib.hid (hA3.out.below hd)
    have hN4 := Lib.hid (hN3.out.below hd)
    have hB4 := Lib.hid (hB3.out.trans (Bar.of_below hd))
    have hS : ∀ W, NdB W kx (fnT j k r) → (W.cell? ⟨kx, 4, none⟩ = some (.int .i64 r.a) ∧ W.cell? ⟨kx, 5, none⟩ = some (.int .i64 r.b) ∧ W.cell? ⟨kx, 6, none⟩ = some (.int .i64 r.c) ∧ W.cell? ⟨kx, 7, none⟩ = some (.int .i64 r.d) ∧ W.cell? ⟨kx, 8, none⟩ = some (.int .i64 r.t) ∧ kx < W.heap.size) := fun W hR => ⟨hR.cells.2.2.2.2.2.1, hR.cells.2.2.2.2.2.2.1, hR.cells.2.2.2.2.2.2.2.1, hR.cells.2.2.2.2.2.2.2.2.1, hR.cells.2.2.2.2.2.2.2.2.2, hR.cells.1⟩
    clear hA3 hN3 hB3
    refine wp_region_held_drew (S := fun W => W.cell? ⟨kx, 4, none⟩ = some (.int .i64 r.a) ∧ W.cell? ⟨kx, 5, none⟩ = some (.int .i64 r.b) ∧ W.cell? ⟨kx, 6, none⟩ = some (.int .i64 r.c) ∧ W.cell? ⟨kx, 7, none⟩ = some (.int .i64 r.d) ∧ W.cell? ⟨kx, 8, none⟩ = some (.int .i64 r.t) ∧ kx < W.heap.size) (by kernel_rfl) (hS _ hN4.out) (fun hHeld => ?_)
    generalize w3.drew = W4 at hHeld hA4 hN4 hB4 ⊢
    clear hd
    refine rg_take 0 (some 51) (v := ?vf1) rfl rfl (by kernel_rfl) (by kernel_rfl) (by kernel_rfl) (fun _ _ _ h => h) (by rfl) ?hyf1 (by assumption) ?_
    case hyf1 => intro W hSW; (try dsimp only at hSW); go_simp; (try with_reducible rfl)
    try simp only [Act.put, List.setIfInBounds_toArray, List.set_cons_zero, List.set_cons_succ]
    refine rg_take 1 (some 52) (v := ?vf2) rfl rfl (by kernel_rfl) (by kernel_rfl) (by kernel_rfl) (fun _ _ _ h => h) (by rfl) ?hyf2 (by assumption) ?_
    case hyf2 => intro W hSW; (try dsimp only at hSW); go_simp; (try with_reducible rfl)
    try simp only [Act.put, List.setIfInBounds_toArray, List.set_cons_zero, List.set_cons_succ]
    refine rg_take 2 (some 53) (v := ?vf3) rfl rfl (by kernel_rfl) (by kernel_rfl) (by kernel_rfl) (fun _ _ _ h => h) (by rfl) ?hyf3 (by assumption) ?_
    case hyf3 => intro W hSW; (try dsimp only at hSW); go_simp; (try with_reducible rfl)
    try simp only [Act.put, List.setIfInBounds_toArray, List.set_cons_zero, List.set_cons_succ]
    refine rg_take 3 (some 54) (v := ?vf4) rfl rfl (by kernel_rfl) (by kernel_rfl) (by kernel_rfl) (fun _ _ _ h => h) (by rfl) ?hyf4 (by assumption) ?_
    case hyf4 => intro W hSW; (try dsimp only at hSW); go_simp; (try with_reducible rfl)
    try simp only [Act.put, List.setIfInBounds_toArray, List.set_cons_zero, List.set_cons_succ]
    refine rg_take 4 (some 55) (v := ?vf5) rfl rfl (by kernel_rfl) (by kernel_rfl) (by kernel_rfl) (fun _ _ _ h => h) (by rfl) ?hyf5 (by assumption) ?_
    case hyf5 => intro W hSW; (try dsimp only at hSW); go_simp; (try with_reducible rfl)
    try simp only [Act.put, List.setIfInBounds_toArray, List.set_cons_zero, List.set_cons_succ]
    refine rg_take 5 (some 56) (v := ?vf6) rfl rfl (by kernel_rfl) (by kernel_rfl) (by kernel_rfl) (fun _ _ _ h => h) (by rfl) ?hyf6 (by assumption) ?_
    case hyf6 => intro W hSW; (try dsimp only at hSW); go_simp; (try with_reducible rfl)
    try simp only [Act.put, List.setIfInBounds_toArray, List.set_cons_zero, List.set_cons_succ]
    refine rg_one 6 rfl (by kernel_rfl) (by rfl) (fun K hK => ?_)
    go_simp
    (go_at_call 92; refine (kR.out _ hA4.out).mono ?_; rintro e w5 ⟨rfl, hA5, hb5⟩)
    refine hK.out _ _ (hS _ (hN4.out.wrote hA4.out hb5)) (fun hHeld6 => ?_)
    clear hK K hHeld
    try simp only [Act.put, List.setIfInBounds_toArray, List.set_cons_zero, List.set_cons_succ]
    have hN5 := Lib.hid (hN4.out.wrote hA4.out hb5)
    have hB5 := Lib.hid (hB4.out.trans hb5)
    have hA5 := Lib.hid hA5
    refine rg_take 7 (some 58) (v := ?vf7) rfl rfl (by kernel_rfl) (by kernel_rfl) (by kernel_rfl) (fun _ _ _ h => h) (by rfl) ?hyf7 (by assumption) ?_
    case hyf7 => intro W hSW; (try dsimp only at hSW); go_simp; (try with_reducible rfl)
    try simp only [Act.put, List.setIfInBounds_toArray, List.set_cons_zero, List.set_cons_succ]
    refine rg_take 8 (some 59) (v := ?vf8) rfl rfl (by kernel_rfl) (by kernel_rfl) (by kernel_rfl) (fun _ _ _ h => h) (by rfl) ?hyf8 (by assumption) ?_
    case hyf8 => intro W hSW; (try dsimp only at hSW); go_simp; (try with_reducible rfl)
    try simp only [Act.put, List.setIfInBounds_toArray, List.set_cons_zero, List.set_cons_succ]
    refine rg_one 9 rfl (by kernel_rfl) (by rfl) (fun K hK => ?_)
    go_simp
    (go_at_call 90; refine (kO.out _ _ _ _ _ (by rw [ByteArray.size_append, ByteArray.size_append]; simp; show _ + (2 + RK.size + 1) ≤ _; omega) hA5.out).mono ?_; rintro e w6 ⟨rfl, hx6, hb6⟩)
    refine hK.out _ _ (hS _ (hN5.out.wrote hA5.out (BarW.ofU hb6))) (fun hHeld9 => ?_)
    clear hK K hHeld6
    try simp only [Act.put, List.setIfInBounds_toArray, List.set_cons_zero, List.set_cons_succ]
    refine wpAnyH_done (by kernel_rfl) ?_ _
    have hN6 := Lib.hid (hN5.out.wrote hA5.out (BarW.ofU hb6))
    have hB6 := Lib.hid (hB5.out.trans (BarW.ofU hb6))
    have hA6 := Lib.hid (hA5.out.wrote hx6 hb6)
    clear hx6 hb6 hHeld9 hN5 hB5 hA5 hS hN4 hB4 hA4
    obtain ⟨y0, y1, y2, y3, y4, _⟩ := hN6.out.cells
    unfold fnT at y1 y2 y3 y4
    simp only [] at y1 y2 y3 y4
    go_wp2_with fail
    refine (kB.out _ _ (by simp; omega) hA6.out).mono ?_
    rintro e w7 ⟨rfl, hA7, hb7⟩
    have hB7 := Lib.hid (hB6.out.trans hb7)
    have hA7 := Lib.hid hA7
    clear hb7 hN6 hB6 hA6 y0 y1 y2 y3 y4
    obtain ⟨c0, _⟩ := hA7.out.wr.cells
    go_wp2_with fail
    refine (kO.out _ _ _ _ _ (by simp; show _ + 1 ≤ _; omega) hA7.out).mono ?_
    rintro e w8 ⟨rfl, hx8, hb8⟩
    have hF := Lib.hid (And.intro (hA7.out.wrote hx8 hb8) (hB7.out.trans (BarW.ofU hb8)))
    clear hx8 hb8
    go_wp2_with fail
    go_end0
    refine ⟨rfl, ?_⟩
    have e : l ++ TXF = l ++ [40] ++ TA ++ ((⟨#[32, 45]⟩ : ByteArray) ++ RK ++ ⟨#[32]⟩).data.toList ++ TC ++ (⟨#[41]⟩ : ByteArray).data.toList := by rw [htx.out]; simp
    rw [e]
    exact hF.out

end Go.Proofs.YtfkdcconmecaoaaDoor
