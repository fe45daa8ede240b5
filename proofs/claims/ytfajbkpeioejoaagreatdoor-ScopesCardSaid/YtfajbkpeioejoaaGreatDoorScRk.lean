/- The reference's walk over names. -/
import Derived.Test.YtfajbkpeioejoaaGreatDoorScRi
import Derived.Test.YtfajbkpeioejoaaGreatDoorScRj
import Derived.Test.YtfajbkpeioejoaaGreatDoorScRl
import Derived.Test.YtfajbkpeioejoaaGreatDoorScRn
namespace Go.Proofs.YtfajbkpeioejoaaGreatDoor
open Go.RowKit
set_option linter.unusedVariables false
set_option linter.unusedSimpArgs false

theorem rwalk_any (N G : Nat) (ao : Option Addr) (no co cp : Nat) (os : List Or) (hA : Hid (Apart N G ao os)) (hl : no ≤ 1000000) : ∀ f, WkSpec N G ao no co cp os f := by
  intro f
  induction f with
  | zero => intro at_ bd a n c s w h; omega
  | succ f ih =>
    intro at_ bd a n c s w hf hat hsl hD hlen hW hE hnn hEa
    have hc : (s.1.getD at_ nd0).k = 0 ∨ (s.1.getD at_ nd0).k = 3 ∨ (s.1.getD at_ nd0).k = 5 ∨ (s.1.getD at_ nd0).k = 6 ∨ (s.1.getD at_ nd0).k = 9 ∨ (s.1.getD at_ nd0).k = 10 ∨ (s.1.getD at_ nd0).k = 4 ∨ (s.1.getD at_ nd0).k = 8 ∨ (s.1.getD at_ nd0).k = 7 ∨ ((s.1.getD at_ nd0).k ≠ 0 ∧ (s.1.getD at_ nd0).k ≠ 3 ∧ (s.1.getD at_ nd0).k ≠ 5 ∧ (s.1.getD at_ nd0).k ≠ 6 ∧ (s.1.getD at_ nd0).k ≠ 9 ∧ (s.1.getD at_ nd0).k ≠ 10 ∧ (s.1.getD at_ nd0).k ≠ 4 ∧ (s.1.getD at_ nd0).k ≠ 8 ∧ (s.1.getD at_ nd0).k ≠ 7) := by omega
    rcases hc with h | h | h | h | h | h | h | h | h | h
    · exact rk_0 N G ao no co cp os hA hl f ih at_ bd a n c s w hf hat hsl hD hlen hW hE hnn hEa h
    · exact rk_3 N G ao no co cp os hA hl f ih at_ bd a n c s w hf hat hsl hD hlen hW hE hnn hEa h
    · exact rk_5 N G ao no co cp os hA hl f ih at_ bd a n c s w hf hat hsl hD hlen hW hE hnn hEa h
    · exact rk_6 N G ao no co cp os hA hl f ih at_ bd a n c s w hf hat hsl hD hlen hW hE hnn hEa h
    · exact rk_9 N G ao no co cp os hA hl f ih at_ bd a n c s w hf hat hsl hD hlen hW hE hnn hEa h
    · exact rk_10 N G ao no co cp os hA hl f ih at_ bd a n c s w hf hat hsl hD hlen hW hE hnn hEa h
    · exact rk_4 N G ao no co cp os hA hl f ih at_ bd a n c s w hf hat hsl hD hlen hW hE hnn hEa h
    · exact rk_8 N G ao no co cp os hA hl f ih at_ bd a n c s w hf hat hsl hD hlen hW hE hnn hEa h
    · exact rk_7 N G ao no co cp os hA hl f ih at_ bd a n c s w hf hat hsl hD hlen hW hE hnn hEa h
    · exact rk_d N G ao no co cp os hA hl f ih at_ bd a n c s w hf hat hsl hD hlen hW hE hnn hEa h
end Go.Proofs.YtfajbkpeioejoaaGreatDoor
