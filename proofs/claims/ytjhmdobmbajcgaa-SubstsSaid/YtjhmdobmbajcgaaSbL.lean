/- SameBinds at binds that are the same but for where their types lie. -/
import Derived.Test.YtjhmdobmbajcgaaSbK
import Derived.Deep.RegionHeld3
namespace Go.Proofs.Ytjhmdobmbajcgaa
open Go.RowKit Go.Maps
set_option linter.unusedVariables false
set_option linter.unusedSimpArgs false

set_option maxHeartbeats 1000000 in
theorem sameBinds_nil (a a' : Option Addr) (c c' : Nat) (w : World) : Calls Try.prog 21 #[.slice a 0 c, .slice a' 0 c'] w fun e w' => e = .returned (.bool true) ∧ Below w.heap.size w w' := by
  go_enter Try.func21, Try.ntmps21
  go_wp2_with fail
  go_loopw [5] (fun i wr => i = .int .i64 0 ∧ wr = w) (fun _ _ => 0)
  case atStart => exact ⟨rfl, rfl⟩
  case round =>
    obtain ⟨rfl, rfl⟩ := hrel
    go_wp2_with fail
    go_ret
    exact ⟨rfl, Below.refl _ _⟩
theorem core_inj {x y : Bn} (h : x.core = y.core) : x.v = y.v ∧ x.ir = y.ir ∧ x.n = y.n ∧ x.ns = y.ns ∧ x.r = y.r := by
  obtain ⟨_, _, _, _, _, _, _⟩ := x
  obtain ⟨_, _, _, _, _, _, _⟩ := y
  unfold Bn.core at h
  injection h with h1 h2 h3 h4 h5 h6 h7
  exact ⟨h1, h2, h4, h6, h7⟩
theorem core_at {xs ys : List Bn} (h : coreL xs = coreL ys) (j : Nat) : (xs.getD j bn0).core = (ys.getD j bn0).core := by
  have e : ∀ l : List Bn, (l.getD j bn0).core = (coreL l).getD j bn0 := fun l => by
    unfold coreL
    rw [List.getD_eq_getElem?_getD, List.getD_eq_getElem?_getD, List.getElem?_map]
    cases l[j]? <;> rfl
  rw [e, e, h]
theorem core_len {xs ys : List Bn} (h : coreL xs = coreL ys) : xs.length = ys.length := by
  have := congrArg List.length h
  unfold coreL at this
  rwa [List.length_map, List.length_map] at this
theorem rwQ_same (a b c d t : Int) : rwQ a b c d t a b c d t = true := by unfold rwQ; simp
theorem sbS_go {wr W W' : World} {b b' off off' j : Nat} {x y : Bn} (hb : b < wr.heap.size) (hb' : b' < wr.heap.size) (h : W.cell? ⟨b, off + j * 8, none⟩ = some (.int .i64 x.v) ∧ W.cell? ⟨b, off + j * 8 + 1, none⟩ = some (.bool x.ir) ∧ W.cell? ⟨b, off + j * 8 + 2, none⟩ = some (.slice x.ad x.n x.c) ∧ W.cell? ⟨b, off + j * 8 + 3, none⟩ = some (.int .i64 x.r.a) ∧ W.cell? ⟨b, off + j * 8 + 4, none⟩ = some (.int .i64 x.r.b) ∧ W.cell? ⟨b, off + j * 8 + 5, none⟩ = some (.int .i64 x.r.c) ∧ W.cell? ⟨b, off + j * 8 + 6, none⟩ = some (.int .i64 x.r.d) ∧ W.cell? ⟨b, off + j * 8 + 7, none⟩ = some (.int .i64 x.r.t) ∧ W.cell? ⟨b', off' + j * 8, none⟩ = some (.int .i64 y.v) ∧ W.cell? ⟨b', off' + j * 8 + 1, none⟩ = some (.bool y.ir) ∧ W.cell? ⟨b', off' + j * 8 + 2, none⟩ = some (.slice y.ad y.n y.c) ∧ W.cell? ⟨b', off' + j * 8 + 3, none⟩ = some (.int .i64 y.r.a) ∧ W.cell? ⟨b', off' + j * 8 + 4, none⟩ = some (.int .i64 y.r.b) ∧ W.cell? ⟨b', off' + j * 8 + 5, none⟩ = some (.int .i64 y.r.c) ∧ W.cell? ⟨b', off' + j * 8 + 6, none⟩ = some (.int .i64 y.r.d) ∧ W.cell? ⟨b', off' + j * 8 + 7, none⟩ = some (.int .i64 y.r.t) ∧ Below wr.heap.size wr W) (hW : Below W.heap.size W W') : W'.cell? ⟨b, off + j * 8, none⟩ = some (.int .i64 x.v) ∧ W'.cell? ⟨b, off + j * 8 + 1, none⟩ = some (.bool x.ir) ∧ W'.cell? ⟨b, off + j * 8 + 2, none⟩ = some (.slice x.ad x.n x.c) ∧ W'.cell? ⟨b, off + j * 8 + 3, none⟩ = some (.int .i64 x.r.a) ∧ W'.cell? ⟨b, off + j * 8 + 4, none⟩ = some (.int .i64 x.r.b) ∧ W'.cell? ⟨b, off + j * 8 + 5, none⟩ = some (.int .i64 x.r.c) ∧ W'.cell? ⟨b, off + j * 8 + 6, none⟩ = some (.int .i64 x.r.d) ∧ W'.cell? ⟨b, off + j * 8 + 7, none⟩ = some (.int .i64 x.r.t) ∧ W'.cell? ⟨b', off' + j * 8, none⟩ = some (.int .i64 y.v) ∧ W'.cell? ⟨b', off' + j * 8 + 1, none⟩ = some (.bool y.ir) ∧ W'.cell? ⟨b', off' + j * 8 + 2, none⟩ = some (.slice y.ad y.n y.c) ∧ W'.cell? ⟨b', off' + j * 8 + 3, none⟩ = some (.int .i64 y.r.a) ∧ W'.cell? ⟨b', off' + j * 8 + 4, none⟩ = some (.int .i64 y.r.b) ∧ W'.cell? ⟨b', off' + j * 8 + 5, none⟩ = some (.int .i64 y.r.c) ∧ W'.cell? ⟨b', off' + j * 8 + 6, none⟩ = some (.int .i64 y.r.d) ∧ W'.cell? ⟨b', off' + j * 8 + 7, none⟩ = some (.int .i64 y.r.t) ∧ Below wr.heap.size wr W' := by
  obtain ⟨x0, x1, x2, x3, x4, x5, x6, x7, y0, y1, y2, y3, y4, y5, y6, y7, z⟩ := h
  have := z.size
  exact ⟨carry hW (by omega) x0, carry hW (by omega) x1, carry hW (by omega) x2, carry hW (by omega) x3, carry hW (by omega) x4, carry hW (by omega) x5, carry hW (by omega) x6, carry hW (by omega) x7, carry hW (by omega) y0, carry hW (by omega) y1, carry hW (by omega) y2, carry hW (by omega) y3, carry hW (by omega) y4, carry hW (by omega) y5, carry hW (by omega) y6, carry hW (by omega) y7, belT z hW⟩
theorem sbS_bel {wr W : World} {b b' off off' j : Nat} {x y : Bn} (h : W.cell? ⟨b, off + j * 8, none⟩ = some (.int .i64 x.v) ∧ W.cell? ⟨b, off + j * 8 + 1, none⟩ = some (.bool x.ir) ∧ W.cell? ⟨b, off + j * 8 + 2, none⟩ = some (.slice x.ad x.n x.c) ∧ W.cell? ⟨b, off + j * 8 + 3, none⟩ = some (.int .i64 x.r.a) ∧ W.cell? ⟨b, off + j * 8 + 4, none⟩ = some (.int .i64 x.r.b) ∧ W.cell? ⟨b, off + j * 8 + 5, none⟩ = some (.int .i64 x.r.c) ∧ W.cell? ⟨b, off + j * 8 + 6, none⟩ = some (.int .i64 x.r.d) ∧ W.cell? ⟨b, off + j * 8 + 7, none⟩ = some (.int .i64 x.r.t) ∧ W.cell? ⟨b', off' + j * 8, none⟩ = some (.int .i64 y.v) ∧ W.cell? ⟨b', off' + j * 8 + 1, none⟩ = some (.bool y.ir) ∧ W.cell? ⟨b', off' + j * 8 + 2, none⟩ = some (.slice y.ad y.n y.c) ∧ W.cell? ⟨b', off' + j * 8 + 3, none⟩ = some (.int .i64 y.r.a) ∧ W.cell? ⟨b', off' + j * 8 + 4, none⟩ = some (.int .i64 y.r.b) ∧ W.cell? ⟨b', off' + j * 8 + 5, none⟩ = some (.int .i64 y.r.c) ∧ W.cell? ⟨b', off' + j * 8 + 6, none⟩ = some (.int .i64 y.r.d) ∧ W.cell? ⟨b', off' + j * 8 + 7, none⟩ = some (.int .i64 y.r.t) ∧ Below wr.heap.size wr W) : Below wr.heap.size wr W := h.2.2.2.2.2.2.2.2.2.2.2.2.2.2.2.2
set_option maxRecDepth 100000 in
set_option maxHeartbeats 4000000 in
theorem sameBinds_sl (b off cp b' off' cp' : Nat) (xs ys : List Bn) (w : World) (h : Hid (BnSl w b off xs)) (h' : Hid (BnSl w b' off' ys)) (hbs : b < w.heap.size) (hbs' : b' < w.heap.size) (hc : Hid (coreL xs = coreL ys)) (hl : ys.length ≤ 1759218604400) :
    Calls Try.prog 21 #[.slice (some ⟨b, off, none⟩) ys.length cp, .slice (some ⟨b', off', none⟩) ys.length cp'] w fun e w' => e = .returned (.bool true) ∧ Below w.heap.size w w' := by
  have hxy := Lib.hid (core_len hc.out)
  have hin := fun (x0 x1 x2 x3 x4 y0 y1 y2 y3 y4 : Int) (W : World) => row_in 9997 x0 x1 x2 x3 x4 y0 y1 y2 y3 y4 W
  simp only [Nat.reduceAdd] at hin
  go_enter Try.func21, Try.ntmps21
  go_wp2_with fail
  go_loopw [5] (fun i wr => ∃ j : Nat, j ≤ ys.length ∧ i = .int .i64 j ∧ Below w.heap.size w wr) (fun i _ => ys.length - (intOf i).toNat)
  case atStart => exact ⟨0, by omega, rfl, Below.refl _ _⟩
  case round =>
    obtain ⟨j, hj, rfl, hbw⟩ := hrel
    by_cases hlt : j < ys.length
    · obtain ⟨hA, hX, hn⟩ := h.out.below hbw hbs j (by have := hxy.out; omega)
      obtain ⟨hA', hX', hn'⟩ := h'.out.below hbw hbs' j hlt
      obtain ⟨i1, i2, i3, i4, i5⟩ := core_inj (core_at hc.out j)
      generalize xs.getD j bn0 = x at hA hX hn i1 i2 i3 i4 i5
      generalize ys.getD j bn0 = y at hA' hX' hn' i1 i2 i3 i4 i5
      have hws := hbw.size
      have hbr : b < wr.heap.size := by omega
      have hbr' : b' < wr.heap.size := by omega
      have hlt' : (j : Int) < (ys.length : Int) := by omega
      have hj0 : (0 : Int) ≤ (j : Int) := by omega
      have hst := Lib.hid (show wr.cell? ⟨b, off + j * 8, none⟩ = some (.int .i64 x.v) ∧ wr.cell? ⟨b, off + j * 8 + 1, none⟩ = some (.bool x.ir) ∧ wr.cell? ⟨b, off + j * 8 + 2, none⟩ = some (.slice x.ad x.n x.c) ∧ wr.cell? ⟨b, off + j * 8 + 3, none⟩ = some (.int .i64 x.r.a) ∧ wr.cell? ⟨b, off + j * 8 + 4, none⟩ = some (.int .i64 x.r.b) ∧ wr.cell? ⟨b, off + j * 8 + 5, none⟩ = some (.int .i64 x.r.c) ∧ wr.cell? ⟨b, off + j * 8 + 6, none⟩ = some (.int .i64 x.r.d) ∧ wr.cell? ⟨b, off + j * 8 + 7, none⟩ = some (.int .i64 x.r.t) ∧ wr.cell? ⟨b', off' + j * 8, none⟩ = some (.int .i64 y.v) ∧ wr.cell? ⟨b', off' + j * 8 + 1, none⟩ = some (.bool y.ir) ∧ wr.cell? ⟨b', off' + j * 8 + 2, none⟩ = some (.slice y.ad y.n y.c) ∧ wr.cell? ⟨b', off' + j * 8 + 3, none⟩ = some (.int .i64 y.r.a) ∧ wr.cell? ⟨b', off' + j * 8 + 4, none⟩ = some (.int .i64 y.r.b) ∧ wr.cell? ⟨b', off' + j * 8 + 5, none⟩ = some (.int .i64 y.r.c) ∧ wr.cell? ⟨b', off' + j * 8 + 6, none⟩ = some (.int .i64 y.r.d) ∧ wr.cell? ⟨b', off' + j * 8 + 7, none⟩ = some (.int .i64 y.r.t) ∧ Below wr.heap.size wr wr from by
        obtain ⟨x0, x1, x2, x3, x4, x5, x6, x7⟩ := hA
        obtain ⟨y0, y1, y2, y3, y4, y5, y6, y7⟩ := hA'
        exact ⟨x0, x1, x2, x3, x4, x5, x6, x7, y0, y1, y2, y3, y4, y5, y6, y7, Below.refl _ _⟩)
      have hbw := Lib.hid hbw
      have kS := Lib.hid fun (W : World) (hb : Below wr.heap.size wr W) => sameType_any x.ad y.ad x.n y.n x.c y.c x.ns y.ns W (Lib.hid (hX.below hb)) (Lib.hid (hX'.below hb)) hn
      rw [i4, decide_eq_true rfl] at kS
      obtain ⟨v, ir, ad, n, c, ns, ⟨ra, rb, rc, rd, rt⟩⟩ := x
      obtain ⟨v', ir', ad', n', c', ns', ⟨ra', rb', rc', rd', rt'⟩⟩ := y
      simp only [] at *
      subst i1 i2 i3 i4
      injection i5 with i51 i52 i53 i54 i55
      subst i51 i52 i53 i54 i55
      have hrq := rwQ_same ra rb rc rd rt
      clear hA hA' hX hX'
      go_wp2_with fail
      go_region_held3 (fun W => W.cell? ⟨b, off + j * 8, none⟩ = some (.int .i64 v) ∧ W.cell? ⟨b, off + j * 8 + 1, none⟩ = some (.bool ir) ∧ W.cell? ⟨b, off + j * 8 + 2, none⟩ = some (.slice ad n c) ∧ W.cell? ⟨b, off + j * 8 + 3, none⟩ = some (.int .i64 ra) ∧ W.cell? ⟨b, off + j * 8 + 4, none⟩ = some (.int .i64 rb) ∧ W.cell? ⟨b, off + j * 8 + 5, none⟩ = some (.int .i64 rc) ∧ W.cell? ⟨b, off + j * 8 + 6, none⟩ = some (.int .i64 rd) ∧ W.cell? ⟨b, off + j * 8 + 7, none⟩ = some (.int .i64 rt) ∧ W.cell? ⟨b', off' + j * 8, none⟩ = some (.int .i64 v) ∧ W.cell? ⟨b', off' + j * 8 + 1, none⟩ = some (.bool ir) ∧ W.cell? ⟨b', off' + j * 8 + 2, none⟩ = some (.slice ad' n c') ∧ W.cell? ⟨b', off' + j * 8 + 3, none⟩ = some (.int .i64 ra) ∧ W.cell? ⟨b', off' + j * 8 + 4, none⟩ = some (.int .i64 rb) ∧ W.cell? ⟨b', off' + j * 8 + 5, none⟩ = some (.int .i64 rc) ∧ W.cell? ⟨b', off' + j * 8 + 6, none⟩ = some (.int .i64 rd) ∧ W.cell? ⟨b', off' + j * 8 + 7, none⟩ = some (.int .i64 rt) ∧ Below wr.heap.size wr W)
        (first | with_reducible exact sbS_go (x := ⟨v, ir, ad, n, c, ns, ⟨ra, rb, rc, rd, rt⟩⟩) (y := ⟨v, ir, ad', n, c', ns, ⟨ra, rb, rc, rd, rt⟩⟩) hbr hbr' (by assumption) hb9 | with_reducible exact hst.out | with_reducible exact sbS_go (x := ⟨v, ir, ad, n, c, ns, ⟨ra, rb, rc, rd, rt⟩⟩) (y := ⟨v, ir, ad', n, c', ns, ⟨ra, rb, rc, rd, rt⟩⟩) hbr hbr' hst.out ((Below.refl _ _).drew))
        ((first
          | (go_at_call 18; refine (kS.out _ (sbS_bel (x := ⟨v, ir, ad, n, c, ns, ⟨ra, rb, rc, rd, rt⟩⟩) (y := ⟨v, ir, ad', n, c', ns, ⟨ra, rb, rc, rd, rt⟩⟩) (by assumption))).mono ?_; rintro e w9 ⟨rfl, hb9⟩)))
      have hE := Lib.hid (sbS_bel (x := ⟨v, ir, ad, n, c, ns, ⟨ra, rb, rc, rd, rt⟩⟩) (y := ⟨v, ir, ad', n, c', ns, ⟨ra, rb, rc, rd, rt⟩⟩) (by assumption))
      go_wp2_with fail
      go_roundw
      case rel => exact ⟨j + 1, by omega, by go_num, belT hbw.out hE.out⟩
      case measure => simp [intOf]; omega
    · go_wp2_with fail
      go_ret
      exact ⟨rfl, hbw⟩
theorem sameBinds_any (a a' : Option Addr) (n n' c c' : Nat) (xs ys : List Bn) (w : World) (h : Hid (BnArg w a n xs)) (h' : Hid (BnArg w a' n' ys)) (hc : Hid (coreL xs = coreL ys)) (hl : n' ≤ 1759218604400) :
    Calls Try.prog 21 #[.slice a n c, .slice a' n' c'] w fun e w' => e = .returned (.bool true) ∧ Below w.heap.size w w' := by
  obtain ⟨hn, h1⟩ := h.out
  obtain ⟨hn', h2⟩ := h'.out
  have he := core_len hc.out
  by_cases h0 : ys.length = 0
  · have e1 : n = 0 := by omega
    have e2 : n' = 0 := by omega
    subst e1 e2
    exact sameBinds_nil _ _ _ _ _
  · obtain ⟨b, off, rfl, h3, h4⟩ : ∃ b off, a = some ⟨b, off, none⟩ ∧ BnSl w b off xs ∧ b < w.heap.size := by
      rcases h1 with h1 | h1
      · rw [h1] at he; simp at he; omega
      · exact h1
    obtain ⟨b', off', rfl, h5, h6⟩ : ∃ b off, a' = some ⟨b, off, none⟩ ∧ BnSl w b off ys ∧ b < w.heap.size := by
      rcases h2 with h2 | h2
      · rw [h2] at h0; simp at h0
      · exact h2
    have e1 : n = ys.length := by omega
    subst e1 hn'
    exact sameBinds_sl b off c b' off' c' xs ys w (Lib.hid h3) (Lib.hid h5) h4 h6 hc hl
end Go.Proofs.Ytjhmdobmbajcgaa
