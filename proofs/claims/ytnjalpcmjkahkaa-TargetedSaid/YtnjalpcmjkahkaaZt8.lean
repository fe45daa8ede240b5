/- What comes of a prim. Plain. -/
import Derived.Test.YtnjalpcmjkahkaaZt5
import Derived.Test.YtnjalpcmjkahkaaZt6
import Derived.Test.YtnjalpcmjkahkaaZt7
import Derived.Test.YtnjalpcmjkahkaaChecked
import Derived.WalkLawsBesides
set_option maxRecDepth 100000
set_option maxHeartbeats 8000000
namespace Go.Proofs.Ytnjalpcmjkahkaa
set_option linter.unusedVariables false
set_option linter.unusedSimpArgs false
def numO (n : Int) : Int × Int := if n < -1073741824 ∨ 1073741823 < n then (3, 0) else (0, n)
def truO (b : Bool) : Int × Int := if b then (1, 1) else (1, 0)
def prmV (p u v : Int) : Int × Int :=
 if p = 0 then numO (u + v) else if p = 1 then numO (u - v) else if p = 2 then numO (u * v)
 else if p = 3 then (if v = 0 then (3, 1) else numO (u.tdiv v)) else if p = 4 then truO (decide (u = v)) else truO (decide (u < v))
open Go.RowKit
theorem rmay_nil (p : Option Addr) (c : Nat) (w : World) :
  Calls Try.prog 19 #[.slice p 0 c] w fun e w' => e = .returned (.bool false) ∧ Below w.heap.size w w' := by
 go_enter Try.func19, Try.ntmps19
 go_wp2_with fail
 go_ret
 exact ⟨rfl, by (repeat' (first | (with_reducible first | exact bR _ _ | assumption | apply bS | apply bA | apply bD | apply bN | exact bL _) | (simp; done) | (simp; omega) | omega | exact bL _))⟩
theorem rmay_any (b off cp : Nat) (ts : List Tg) (w : World) (h : Hid (TgSl w b off ts)) (hbs : b < w.heap.size) (hl : ts.length ≤ 140737488351232) :
  Calls Try.prog 19 #[.slice (some ⟨b, off, none⟩) ts.length cp] w fun e w' => e = .returned (.bool (mayV ts)) ∧ Below w.heap.size w w' := by
 by_cases h0 : ts.length < 1
 ·have hv := Lib.hid (mayV_len ts (.inl (by omega)))
  go_enter Try.func19, Try.ntmps19
  go_wp2_with fail
  go_ret
  exact ⟨ret_b hv.out.symm, by (repeat' (first | (with_reducible first | exact bR _ _ | assumption | apply bS | apply bA | apply bD | apply bN | exact bL _) | (simp; done) | (simp; omega) | omega | exact bL _))⟩
 by_cases h1 : 8192 < ts.length
 ·have hv := Lib.hid (mayV_len ts (.inr h1))
  go_enter Try.func19, Try.ntmps19
  go_wp2_with fail
  go_ret
  exact ⟨ret_b hv.out.symm, by (repeat' (first | (with_reducible first | exact bR _ _ | assumption | apply bS | apply bA | apply bD | apply bN | exact bL _) | (simp; done) | (simp; omega) | omega | exact bL _))⟩
 have hfin : Hid (∀ j, j < ts.length → okT (ts.getD j tg0) = false → mayV ts = false) := Lib.hid (mayV_node ts)
 have hokv : Hid (ts.all okT = true → mayV ts = (decide (0 < ts.length) && decide (bg (ksT ts) (ts.length - 1) = 0))) := Lib.hid (mayV_ok ts (by omega) (by omega))
 go_enter Try.func19, Try.ntmps19
 go_wp2_with fail
 go_loopw [3] (fun i wr => ∃ j : Nat, j ≤ ts.length ∧ i = .int .i64 j ∧ Below w.heap.size w wr ∧ Hid ((ts.take j).all okT = true)) (fun i _ => ts.length - (intOf i).toNat)
 case atStart => exact ⟨0, by omega, rfl, by (repeat' (first | (with_reducible first | exact bR _ _ | assumption | apply bS | apply bA | apply bD | apply bN | exact bL _) | (simp; done) | (simp; omega) | omega | exact bL _)), Lib.hid rfl⟩
 case round =>
  obtain ⟨j, hj, rfl, hbw, hall⟩ := hrel
  have hbr : b < wr.heap.size := by have := hbw.size; omega
  by_cases hlt : j < ts.length
  ·have hT := (h.out j hlt).below hbw hbs
   have htk : Hid ((ts.take (j + 1)).all okT = ((ts.take j).all okT && okT (ts.getD j tg0))) := Lib.hid (allT_take ts tg0 okT j hlt)
   have hfj : Hid (okT (ts.getD j tg0) = false → mayV ts = false) := Lib.hid (hfin.out j hlt)
   have hokt : Hid (okT (ts.getD j tg0) = okTf (ts.getD j tg0).k (ts.getD j tg0).a (ts.getD j tg0).b (ts.getD j tg0).c (ts.getD j tg0).n (ts.getD j tg0).x (ts.getD j tg0).y (ts.getD j tg0).z (ts.getD j tg0).w) := Lib.hid rfl
   generalize ts.getD j tg0 = t at hT htk hfj hokt
   obtain ⟨e0, e1, e2, e3, e4, e5, e6, e7, e8⟩ := hT
   go_wp2_with fail
   refine (tfields_any _ _ _ _ _ _ _ _ _ _).mono ?_
   rintro e w1 ⟨rfl, hb1⟩
   rw [← hokt.out]
   cases hp : okT t
   ·have hf := Lib.hid (hfj.out hp); clear hp
    go_wp2_with fail
    go_ret
    exact ⟨ret_b hf.out.symm, belT hbw hb1⟩
   ·have hp' := Lib.hid hp; clear hp
    go_wp2_with fail
    go_round
    case rel => exact ⟨j + 1, by omega, by go_num, belT hbw hb1, Lib.hid (by rw [htk.out, hall.out, hp'.out]; rfl)⟩
    case measure => simp [intOf]; omega
  ·have hval : Hid (mayV ts = (decide (0 < ts.length) && decide (bg (ksT ts) (ts.length - 1) = 0))) := Lib.hid (hokv.out (by have := hall.out; rwa [List.take_of_length_le (by omega)] at this))
   have hsl : Hid (TgSl wr b off ts) := Lib.hid (h.out.below hbw hbs)
   have hsub : ((ts.length : Int) - 1) = ((ts.length - 1 : Nat) : Int) := by omega
   have hsub' := Lib.hid hsub; clear hsub
   go_wp2_with fail
   rw [hsub'.out]
   refine (tbegin_any b off cp ts hl (ts.length) (ts.length - 1) _ (by omega) (by omega) hsl).mono ?_
   rintro e w1 ⟨rfl, rfl⟩
   go_wp2_with fail
   go_ret
   exact ⟨ret_b (by rw [hval.out, decide_eq_true (by omega : 0 < ts.length), Bool.true_and]; rfl), hbw⟩
end Go.Proofs.Ytnjalpcmjkahkaa
