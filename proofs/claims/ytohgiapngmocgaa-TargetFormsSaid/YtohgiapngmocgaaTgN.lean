/- awake of layer 19. -/
import Derived.Test.YtohgiapngmocgaaTgM
import Derived.Test.YtohgiapngmocgaaTgJ
namespace Go.Proofs.Ytohgiapngmocgaa
open Go.RowKit
set_option linter.unusedVariables false

theorem lit_sl (W : World) (ts : List Tg) (T : TypeId) (g : Nat) (hg : g = W.heap.size) {arr : Array Value} (ha : arr = (rowT ts).toArray) : TgSl (W.alloc (.cells arr T)) g 0 ts := by
  subst hg ha
  rw [tgSl_cells]
  intro q u hq
  rw [Nat.zero_add, World.cell?_alloc_new]
  simpa using hq
theorem sl_drop {w : World} {b off : Nat} {us ts : List Tg} (h : TgSl w b off (us ++ ts)) : TgSl w b (off + us.length * 9) ts := by
  rw [tgSl_cells] at *
  intro q u hq
  have := h (us.length * 9 + q) u (by rw [rowT_app, List.getElem?_append_right (by rw [rowT_len]; omega), rowT_len, Nat.add_sub_cancel_left]; exact hq)
  rw [show off + us.length * 9 + q = off + (us.length * 9 + q) from by omega]; exact this
theorem num_any (e : Int) (w : World) (h0 : 0 ≤ e) (h1 : e ≤ 9223372036854775807) :
    Calls Try.prog 9 #[.int .i64 e] w fun r w' => r = .returned (.int .i64 e) ∧ w = w' := by
  go_enter Try.func9, Try.ntmps9
  go_wp2
  go_ret
  exact ⟨rfl, rfl⟩
def aw19 : List Tg := [⟨0, 0, 0, 0, 4, 0, 0, 0, 0⟩, ⟨9, 0, 0, 0, 0, 0, 0, 0, 0⟩, ⟨3, 1, 0, 0, 0, 7, 0, 0, 0⟩]

set_option maxHeartbeats 400000 in
set_option maxRecDepth 100000 in
theorem awake_any (w : World) : Calls Try.prog 13 #[] w fun e w' => e = .returned (.bool true) ∧ Below w.heap.size w w' := by
  go_enter Try.func13, Try.ntmps13
  go_wp2_with fail
  have hsl0 := lit_sl w aw19 34 w.heap.size rfl rfl
  refine (Names_any w.heap.size 0 3 aw19 _ (Lib.hid hsl0) (by simp) (by decide)).mono ?_
  rintro e w1 ⟨rfl, hb1⟩
  rw [show namV aw19 = 8 from by decide +kernel, show namE aw19 = 0 from by decide +kernel]
  have hs1 : w.heap.size < w1.heap.size := by have := hb1.size; (try simp at this); omega
  have hsl1 := Lib.hid (hsl0.below hb1 (by simp))
  clear hsl0
  go_wp2_with fail
  refine (Names_any w.heap.size 9 2 (aw19.drop 1) _ (Lib.hid (sl_drop (us := aw19.take 1) hsl1.out)) hs1 (by decide)).mono ?_
  rintro e w2 ⟨rfl, hb2⟩
  rw [show namV (aw19.drop 1) = 0 from by decide +kernel, show namE (aw19.drop 1) = 1900 from by decide +kernel]
  have hs2 : w.heap.size < w2.heap.size := by have := hb2.size; omega
  have hsl2 := Lib.hid (hsl1.out.below hb2 hs1)
  go_wp2_with fail
  refine (num_any _ _ (by omega) (by omega)).mono ?_
  rintro e w' ⟨rfl, rfl⟩
  go_wp2_with fail
  refine (num_any _ _ (by omega) (by omega)).mono ?_
  rintro e w' ⟨rfl, rfl⟩
  go_wp2_with fail
  refine (may_any w.heap.size 0 3 aw19 _ hsl2 hs2 (by decide)).mono ?_
  rintro e w3 ⟨rfl, hb3⟩
  rw [show mayV aw19 = true from by decide +kernel]
  go_wp2_with fail
  refine (may_nil _ _ _).mono ?_
  rintro e w4 ⟨rfl, hb4⟩
  go_wp2_with fail
  go_ret
  exact ⟨rfl, belT (belT (belT (belT (by (repeat (first | exact Below.refl _ _ | refine Below.alloc ?_ (by first | exact Nat.le_refl _ | (simp; done) | (simp; omega)) _ | refine Below.drew ?_ | refine below_drewN ?_ _ | refine Below.setCell ?_ (by first | exact Nat.le_refl _ | (simp; done) | (simp; omega)) _))) hb1) hb2) hb3) hb4⟩
end Go.Proofs.Ytohgiapngmocgaa
