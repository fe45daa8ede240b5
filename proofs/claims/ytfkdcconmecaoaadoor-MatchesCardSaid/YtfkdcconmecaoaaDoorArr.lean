/- Two arrays of four numbers: whether they are the same. -/
import Derived.Test.YtfkdcconmecaoaaDoorHlp
namespace Go.Proofs.YtfkdcconmecaoaaDoor
open Go.RowKit
set_option linter.unusedVariables false
set_option linter.unusedSimpArgs false

theorem arr_in (d : Nat) (T : TypeId) (hT : Tryd.prog.underlying T = some (.array 4 3)) (w : World) (x0 x1 x2 x3 y0 y1 y2 y3 : Int) :
    (Op.equalIn (d + 2) T (.agg #[.int .i64 x0, .int .i64 x1, .int .i64 x2, .int .i64 x3]) (.agg #[.int .i64 y0, .int .i64 y1, .int .i64 y2, .int .i64 y3])).run Tryd.prog w = .ok (x0 == y0 && (x1 == y1 && (x2 == y2 && x3 == y3))) w := by
  have hs : ∀ W : World, (sizeOf 3).run Tryd.prog W = .ok 1 W := fun _ => by kernel_rfl
  have p0 : ∀ (a b c e : Int) (W : World), (part 3 #[.int .i64 a, .int .i64 b, .int .i64 c, .int .i64 e] 0).run Tryd.prog W = .ok (.int .i64 a) W := fun _ _ _ _ _ => by kernel_rfl
  have p1 : ∀ (a b c e : Int) (W : World), (part 3 #[.int .i64 a, .int .i64 b, .int .i64 c, .int .i64 e] 1).run Tryd.prog W = .ok (.int .i64 b) W := fun _ _ _ _ _ => by kernel_rfl
  have p2 : ∀ (a b c e : Int) (W : World), (part 3 #[.int .i64 a, .int .i64 b, .int .i64 c, .int .i64 e] 2).run Tryd.prog W = .ok (.int .i64 c) W := fun _ _ _ _ _ => by kernel_rfl
  have p3 : ∀ (a b c e : Int) (W : World), (part 3 #[.int .i64 a, .int .i64 b, .int .i64 c, .int .i64 e] 3).run Tryd.prog W = .ok (.int .i64 e) W := fun _ _ _ _ _ => by kernel_rfl
  have he : ∀ (a b : Int) (W : World), (Op.equalIn (d + 1) 3 (.int .i64 a) (.int .i64 b)).run Tryd.prog W = .ok (a == b) W := fun a b W => run_equalIn_int W d 3 .i64 .i64 a b Tryd.underlying3
  rw [show d + 2 = (d + 1) + 1 from rfl]
  unfold Op.equalIn
  cases h0 : (x0 == y0) <;> cases h1 : (x1 == y1) <;> cases h2 : (x2 == y2) <;> cases h3 : (x3 == y3) <;>
  simp [run_underlying hT, Sem.run_bind, hs, p0, p1, p2, p3, he, h0, h1, h2, h3, Std.Legacy.Range.forIn_eq_forIn_range', List.range', Result.andThen]
end Go.Proofs.YtfkdcconmecaoaaDoor
