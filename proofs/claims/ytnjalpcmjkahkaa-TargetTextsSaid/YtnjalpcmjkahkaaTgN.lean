/- awake of layer 19. -/
import Derived.Test.YtnjalpcmjkahkaaTgM
import Derived.Test.YtnjalpcmjkahkaaTgJ
namespace Go.Proofs.Ytnjalpcmjkahkaa
open Go.RowKit
set_option linter.unusedVariables false
set_option linter.unusedSimpArgs false

theorem lit_sl (W : World) (ts : List Tg) (T : TypeId) (g : Nat) (hg : g = W.heap.size) {arr : Array Value} (ha : arr = (rowT ts).toArray) : TgSl (W.alloc (.cells arr T)) g 0 ts := by
  subst hg ha
  rw [tgSl_cells]
  intro q u hq
  rw [Nat.zero_add, World.cell?_alloc_new]
  simpa using hq
theorem sl_drop {w : World} {b off : Nat} {us ts : List Tg} (h : TgSl w b off (us ++ ts)) : TgSl w b (off + us.length * 9) ts := by
  rw [tgSl_cells] at *
  intro q u hq
  have := h (us.length * 9 + q) u (by rw [rowT_app, List.getElem?_append_right (by rw [rowT_len]; omega), rowT_len, Nat.add_sub_cancel_left]; exact hq)
  rw [show off + us.length * 9 + q = off + (us.length * 9 + q) from by omega]; exact this
theorem num_any (e : Int) (w : World) (h0 : 0 ≤ e) (h1 : e ≤ 9223372036854775807) :
    Calls Try.prog 10 #[.int .i64 e] w fun r w' => r = .returned (.int .i64 e) ∧ w = w' := by
  go_enter Try.func10, Try.ntmps10
  go_wp2
  go_ret
  exact ⟨rfl, rfl⟩
def aw19 : List Tg := [⟨0, 0, 0, 0, 4, 0, 0, 0, 0⟩, ⟨9, 0, 0, 0, 0, 0, 0, 0, 0⟩, ⟨3, 1, 0, 0, 0, 7, 0, 0, 0⟩]

end Go.Proofs.Ytnjalpcmjkahkaa
