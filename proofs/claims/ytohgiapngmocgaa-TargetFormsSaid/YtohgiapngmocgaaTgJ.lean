/- The reference's TargetMay, Names. -/
import Derived.Test.YtohgiapngmocgaaTgG
import Derived.Test.YtohgiapngmocgaaTgH
import Derived.Test.YtohgiapngmocgaaTgI
import Derived.WalkLawsBesides
namespace Go.Proofs.Ytohgiapngmocgaa
open Go.RowKit
set_option linter.unusedVariables false

theorem rmay_nil (p : Option Addr) (c : Nat) (w : World) :
    Calls Try.prog 11 #[.slice p 0 c] w fun e w' => e = .returned (.bool false) ∧ Below w.heap.size w w' := by
  go_enter Try.func11, Try.ntmps11
  go_wp2_with fail
  go_ret
  exact ⟨rfl, by (repeat (first | exact Below.refl _ _ | refine Below.alloc ?_ (by first | exact Nat.le_refl _ | (simp; done) | (simp; omega)) _ | refine Below.drew ?_ | refine below_drewN ?_ _ | refine Below.setCell ?_ (by first | exact Nat.le_refl _ | (simp; done) | (simp; omega)) _))⟩

set_option maxHeartbeats 1000000 in
theorem rmay_any (b off cp : Nat) (ts : List Tg) (w : World) (h : Hid (TgSl w b off ts)) (hbs : b < w.heap.size) (hl : ts.length ≤ 140737488351232) :
    Calls Try.prog 11 #[.slice (some ⟨b, off, none⟩) ts.length cp] w fun e w' => e = .returned (.bool (mayV ts)) ∧ Below w.heap.size w w' := by
  by_cases h0 : ts.length < 1
  · have hv := Lib.hid (mayV_len ts (.inl (by omega)))
    go_enter Try.func11, Try.ntmps11
    go_wp2_with fail
    go_ret
    exact ⟨ret_b hv.out.symm, by (repeat (first | exact Below.refl _ _ | refine Below.alloc ?_ (by first | exact Nat.le_refl _ | (simp; done) | (simp; omega)) _ | refine Below.drew ?_ | refine below_drewN ?_ _ | refine Below.setCell ?_ (by first | exact Nat.le_refl _ | (simp; done) | (simp; omega)) _))⟩
  by_cases h1 : 8192 < ts.length
  · have hv := Lib.hid (mayV_len ts (.inr h1))
    go_enter Try.func11, Try.ntmps11
    go_wp2_with fail
    go_ret
    exact ⟨ret_b hv.out.symm, by (repeat (first | exact Below.refl _ _ | refine Below.alloc ?_ (by first | exact Nat.le_refl _ | (simp; done) | (simp; omega)) _ | refine Below.drew ?_ | refine below_drewN ?_ _ | refine Below.setCell ?_ (by first | exact Nat.le_refl _ | (simp; done) | (simp; omega)) _))⟩
  have hfin : Hid (∀ j, j < ts.length → okT (ts.getD j tg0) = false → mayV ts = false) := Lib.hid (mayV_node ts)
  have hokv : Hid (ts.all okT = true → mayV ts = (decide (0 < ts.length) && decide (bg (ksT ts) (ts.length - 1) = 0))) := Lib.hid (mayV_ok ts (by omega) (by omega))
  go_enter Try.func11, Try.ntmps11
  go_wp2_with fail
  go_loopw [3] (fun i wr => ∃ j : Nat, j ≤ ts.length ∧ i = .int .i64 j ∧ Below w.heap.size w wr ∧ Hid ((ts.take j).all okT = true)) (fun i _ => ts.length - (intOf i).toNat)
  case atStart => exact ⟨0, by omega, rfl, by (repeat (first | exact Below.refl _ _ | refine Below.alloc ?_ (by first | exact Nat.le_refl _ | (simp; done) | (simp; omega)) _ | refine Below.drew ?_ | refine below_drewN ?_ _ | refine Below.setCell ?_ (by first | exact Nat.le_refl _ | (simp; done) | (simp; omega)) _)), Lib.hid rfl⟩
  case round =>
    obtain ⟨j, hj, rfl, hbw, hall⟩ := hrel
    have hbr : b < wr.heap.size := by have := hbw.size; omega
    by_cases hlt : j < ts.length
    · have hT := (h.out j hlt).below hbw hbs
      have htk : Hid ((ts.take (j + 1)).all okT = ((ts.take j).all okT && okT (ts.getD j tg0))) := Lib.hid (allT_take ts tg0 okT j hlt)
      have hfj : Hid (okT (ts.getD j tg0) = false → mayV ts = false) := Lib.hid (hfin.out j hlt)
      have hokt : Hid (okT (ts.getD j tg0) = okTf (ts.getD j tg0).k (ts.getD j tg0).a (ts.getD j tg0).b (ts.getD j tg0).c (ts.getD j tg0).n (ts.getD j tg0).x (ts.getD j tg0).y (ts.getD j tg0).z (ts.getD j tg0).w) := Lib.hid rfl
      generalize ts.getD j tg0 = t at hT htk hfj hokt
      obtain ⟨e0, e1, e2, e3, e4, e5, e6, e7, e8⟩ := hT
      go_wp2_with fail
      refine (tfields_any _ _ _ _ _ _ _ _ _ _).mono ?_
      rintro e w1 ⟨rfl, hb1⟩
      rw [← hokt.out]
      cases hp : okT t
      · have hf := Lib.hid (hfj.out hp); clear hp
        go_wp2_with fail
        go_ret
        exact ⟨ret_b hf.out.symm, belT hbw hb1⟩
      · have hp' := Lib.hid hp; clear hp
        go_wp2_with fail
        go_round
        case rel => exact ⟨j + 1, by omega, by go_num, belT hbw hb1, Lib.hid (by rw [htk.out, hall.out, hp'.out]; rfl)⟩
        case measure => simp [intOf]; omega
    · have hval : Hid (mayV ts = (decide (0 < ts.length) && decide (bg (ksT ts) (ts.length - 1) = 0))) := Lib.hid (hokv.out (by have := hall.out; rwa [List.take_of_length_le (by omega)] at this))
      have hsl : Hid (TgSl wr b off ts) := Lib.hid (h.out.below hbw hbs)
      have hsub : ((ts.length : Int) - 1) = ((ts.length - 1 : Nat) : Int) := by omega
      have hsub' := Lib.hid hsub; clear hsub
      go_wp2_with fail
      rw [hsub'.out]
      refine (tbegin_any b off cp ts hl (ts.length) (ts.length - 1) _ (by omega) (by omega) hsl).mono ?_
      rintro e w1 ⟨rfl, rfl⟩
      go_wp2_with fail
      go_ret
      exact ⟨ret_b (by rw [hval.out, decide_eq_true (by omega : 0 < ts.length), Bool.true_and]; rfl), hbw⟩

set_option maxHeartbeats 1000000 in
theorem rNames_nil (p : Option Addr) (c : Nat) (w : World) :
    Calls Try.prog 8 #[.slice p 0 c] w fun e w' => e = .returned (.tuple #[.int .i64 0, .int .i64 1900]) ∧ Below w.heap.size w w' := by
  go_enter Try.func8, Try.ntmps8
  go_wp2_with fail
  refine (rmay_nil _ _ _).mono ?_
  rintro e w1 ⟨rfl, hb1⟩
  go_wp2_with fail
  go_ret2
  exact ⟨rfl, hb1⟩

def mx2 (a b : Int) : Int := if a < b then b else a
def mx5 (a b c d e : Int) : Int := mx2 (mx2 (mx2 (mx2 a b) c) d) e
theorem mx5_run (a b c d e : Int) (W : World) : (Builtin.max_ #[3, 3, 3, 3, 3] 3 #[.int .i64 a, .int .i64 b, .int .i64 c, .int .i64 d, .int .i64 e]).run Try.prog W = .ok (.int .i64 (mx5 a b c d e)) W := by
  have h2 : ∀ x y : Int, Builtin.max2 (.int .i64 x) (.int .i64 y) = pure (.int .i64 (mx2 x y)) := by
    intro x y
    simp only [Builtin.max2, mx2]
  simp [Builtin.max_, h2, mx5]
set_option maxHeartbeats 1000000 in
theorem rNames_any (b off cp : Nat) (ts : List Tg) (w : World) (h : Hid (TgSl w b off ts)) (hbs : b < w.heap.size) (hl : ts.length ≤ 140737488351232) :
    Calls Try.prog 8 #[.slice (some ⟨b, off, none⟩) ts.length cp] w fun e w' => e = .returned (.tuple #[.int .i64 (namV ts), .int .i64 (namE ts)]) ∧ Below w.heap.size w w' := by
  go_enter Try.func8, Try.ntmps8
  go_wp2_with fail
  refine (rmay_any b off cp ts _ h hbs hl).mono ?_
  rintro e w1 ⟨rfl, hb1⟩
  cases hm : mayV ts
  · have hv : Hid (namV ts = 0 ∧ namE ts = 1900) := Lib.hid (by unfold namV namE; rw [hm]; exact ⟨rfl, rfl⟩)
    clear hm
    go_wp2_with fail
    go_ret2
    exact ⟨ret_ii hv.out.1.symm hv.out.2.symm, hb1⟩
  · have hv : Hid (namV ts = mxT 0 ts ∧ namE ts = 0) := Lib.hid (by unfold namV namE; rw [hm]; exact ⟨rfl, rfl⟩)
    have hall : Hid (∀ j, j < ts.length → okT (ts.getD j tg0) = true) := Lib.hid (by
      intro j hj
      unfold mayV at hm
      simp only [Bool.and_eq_true] at hm
      have := hm.1.2
      rw [List.all_eq_true] at this
      exact this _ (by simp [hj]))
    clear hm
    go_wp2_with fail
    go_loopw [4, 5] (fun mo i wr => ∃ j : Nat, j ≤ ts.length ∧ i = .int .i64 j ∧ Below w.heap.size w wr ∧ mo = .int .i64 (mxT 0 (ts.take j)) ∧ 0 ≤ mxT 0 (ts.take j) ∧ mxT 0 (ts.take j) ≤ 8192) (fun _ i _ => ts.length - (intOf i).toNat)
    case atStart => exact ⟨0, by omega, rfl, hb1, rfl, by simp [mxT], by simp [mxT]⟩
    case round =>
      obtain ⟨j, hj, rfl, hbw, rfl, hm0, hm1⟩ := hrel
      by_cases hlt : j < ts.length
      · have hT := (h.out j hlt).below hbw hbs
        have hmx := Lib.hid (mxT_snoc 0 ts j hlt)
        have hok := Lib.hid (okNames_at (ts.getD j tg0) (hall.out j hlt))
        generalize ts.getD j tg0 = t at hT hmx hok
        generalize mxT 0 (ts.take j) = m0 at hm0 hm1 hmx ⊢
        obtain ⟨e0, e1, e2, e3, e4, e5, e6, e7, e8⟩ := hT
        have hbr : b < wr.heap.size := by have := hbw.size; omega
        obtain ⟨tk, ta, tb, tc, tn, tx, ty, tz, tw⟩ := t
        simp only [] at e0 e1 e2 e3 e4 e5 e6 e7 e8 hmx hok
        have hk : tk = 0 ∨ tk = 3 ∨ tk = 6 ∨ tk = 11 ∨ tk = 4 ∨ tk = 12 ∨ (tk ≠ 0 ∧ tk ≠ 3 ∧ tk ≠ 4 ∧ tk ≠ 6 ∧ tk ≠ 11 ∧ tk ≠ 12) := by omega
        rcases hk with rfl | rfl | rfl | rfl | rfl | rfl | hk
        · have hnl : namesT 0 tn tx ty tz tw = [tn] := rfl
          rw [hnl] at hmx hok
          clear hnl
          have hb_tn := hok.out tn (by simp)
          go_wp2_with fail
          go_round
          case rel => exact ⟨j + 1, by omega, by go_num, belT hbw (by (repeat (first | exact Below.refl _ _ | refine Below.alloc ?_ (by first | exact Nat.le_refl _ | (simp; done) | (simp; omega)) _ | refine Below.drew ?_ | refine below_drewN ?_ _ | refine Below.setCell ?_ (by first | exact Nat.le_refl _ | (simp; done) | (simp; omega)) _))), by rw [hmx.out]; rfl, by rw [hmx.out]; unfold mxL; simp only [List.foldl_cons, List.foldl_nil]; (repeat' split) <;> omega, by rw [hmx.out]; unfold mxL; simp only [List.foldl_cons, List.foldl_nil]; (repeat' split) <;> omega⟩
          case measure => simp [intOf]; omega
        · have hnl : namesT 3 tn tx ty tz tw = [tx] := rfl
          rw [hnl] at hmx hok
          clear hnl
          have hb_tx := hok.out tx (by simp)
          go_wp2_with fail
          go_round
          case rel => exact ⟨j + 1, by omega, by go_num, belT hbw (by (repeat (first | exact Below.refl _ _ | refine Below.alloc ?_ (by first | exact Nat.le_refl _ | (simp; done) | (simp; omega)) _ | refine Below.drew ?_ | refine below_drewN ?_ _ | refine Below.setCell ?_ (by first | exact Nat.le_refl _ | (simp; done) | (simp; omega)) _))), by rw [hmx.out]; rfl, by rw [hmx.out]; unfold mxL; simp only [List.foldl_cons, List.foldl_nil]; (repeat' split) <;> omega, by rw [hmx.out]; unfold mxL; simp only [List.foldl_cons, List.foldl_nil]; (repeat' split) <;> omega⟩
          case measure => simp [intOf]; omega
        · have hnl : namesT 6 tn tx ty tz tw = [tx] := rfl
          rw [hnl] at hmx hok
          clear hnl
          have hb_tx := hok.out tx (by simp)
          go_wp2_with fail
          go_round
          case rel => exact ⟨j + 1, by omega, by go_num, belT hbw (by (repeat (first | exact Below.refl _ _ | refine Below.alloc ?_ (by first | exact Nat.le_refl _ | (simp; done) | (simp; omega)) _ | refine Below.drew ?_ | refine below_drewN ?_ _ | refine Below.setCell ?_ (by first | exact Nat.le_refl _ | (simp; done) | (simp; omega)) _))), by rw [hmx.out]; rfl, by rw [hmx.out]; unfold mxL; simp only [List.foldl_cons, List.foldl_nil]; (repeat' split) <;> omega, by rw [hmx.out]; unfold mxL; simp only [List.foldl_cons, List.foldl_nil]; (repeat' split) <;> omega⟩
          case measure => simp [intOf]; omega
        · have hnl : namesT 11 tn tx ty tz tw = [tx] := rfl
          rw [hnl] at hmx hok
          clear hnl
          have hb_tx := hok.out tx (by simp)
          go_wp2_with fail
          go_round
          case rel => exact ⟨j + 1, by omega, by go_num, belT hbw (by (repeat (first | exact Below.refl _ _ | refine Below.alloc ?_ (by first | exact Nat.le_refl _ | (simp; done) | (simp; omega)) _ | refine Below.drew ?_ | refine below_drewN ?_ _ | refine Below.setCell ?_ (by first | exact Nat.le_refl _ | (simp; done) | (simp; omega)) _))), by rw [hmx.out]; rfl, by rw [hmx.out]; unfold mxL; simp only [List.foldl_cons, List.foldl_nil]; (repeat' split) <;> omega, by rw [hmx.out]; unfold mxL; simp only [List.foldl_cons, List.foldl_nil]; (repeat' split) <;> omega⟩
          case measure => simp [intOf]; omega
        · have hnl : namesT 4 tn tx ty tz tw = [tx, ty] := rfl
          rw [hnl] at hmx hok
          clear hnl
          have hb_tx := hok.out tx (by simp)
          have hb_ty := hok.out ty (by simp)
          go_wp2_with fail
          go_round
          case rel => exact ⟨j + 1, by omega, by go_num, belT hbw (by (repeat (first | exact Below.refl _ _ | refine Below.alloc ?_ (by first | exact Nat.le_refl _ | (simp; done) | (simp; omega)) _ | refine Below.drew ?_ | refine below_drewN ?_ _ | refine Below.setCell ?_ (by first | exact Nat.le_refl _ | (simp; done) | (simp; omega)) _))), by rw [hmx.out]; rfl, by rw [hmx.out]; unfold mxL; simp only [List.foldl_cons, List.foldl_nil]; (repeat' split) <;> omega, by rw [hmx.out]; unfold mxL; simp only [List.foldl_cons, List.foldl_nil]; (repeat' split) <;> omega⟩
          case measure => simp [intOf]; omega
        · have hnl : namesT 12 tn tx ty tz tw = [tx, ty, tz, tw] := rfl
          rw [hnl] at hmx hok
          clear hnl
          have hb_tx := hok.out tx (by simp)
          have hb_ty := hok.out ty (by simp)
          have hb_tz := hok.out tz (by simp)
          have hb_tw := hok.out tw (by simp)
          have hm5 := mx5_run m0 (tx + 1) (ty + 1) (tz + 1) (tw + 1)
          go_wp2_with fail
          go_round
          case rel => exact ⟨j + 1, by omega, by go_num, belT hbw (by (repeat (first | exact Below.refl _ _ | refine Below.alloc ?_ (by first | exact Nat.le_refl _ | (simp; done) | (simp; omega)) _ | refine Below.drew ?_ | refine below_drewN ?_ _ | refine Below.setCell ?_ (by first | exact Nat.le_refl _ | (simp; done) | (simp; omega)) _))), by rw [hmx.out]; rfl, by rw [hmx.out]; unfold mxL; simp only [List.foldl_cons, List.foldl_nil]; (repeat' split) <;> omega, by rw [hmx.out]; unfold mxL; simp only [List.foldl_cons, List.foldl_nil]; (repeat' split) <;> omega⟩
          case measure => simp [intOf]; omega
        · have hnl : namesT tk tn tx ty tz tw = [] := by unfold namesT; (repeat' split) <;> first | (exfalso; omega) | rfl
          rw [hnl] at hmx
          clear hnl
          have g0 : (tk == 0) = false := by simp; omega
          have g3 : (tk == 3) = false := by simp; omega
          have g4 : (tk == 4) = false := by simp; omega
          have g6 : (tk == 6) = false := by simp; omega
          have g11 : (tk == 11) = false := by simp; omega
          have g12 : (tk == 12) = false := by simp; omega
          go_wp2_with fail
          go_round
          case rel => exact ⟨j + 1, by omega, by go_num, belT hbw (by (repeat (first | exact Below.refl _ _ | refine Below.alloc ?_ (by first | exact Nat.le_refl _ | (simp; done) | (simp; omega)) _ | refine Below.drew ?_ | refine below_drewN ?_ _ | refine Below.setCell ?_ (by first | exact Nat.le_refl _ | (simp; done) | (simp; omega)) _))), by rw [hmx.out]; rfl, by rw [hmx.out]; exact hm0, by rw [hmx.out]; exact hm1⟩
          case measure => simp [intOf]; omega
      · go_wp2_with fail
        go_ret2
        exact ⟨ret_ii (by rw [hv.out.1, List.take_of_length_le (by omega)]) hv.out.2.symm, hbw⟩
end Go.Proofs.Ytohgiapngmocgaa
