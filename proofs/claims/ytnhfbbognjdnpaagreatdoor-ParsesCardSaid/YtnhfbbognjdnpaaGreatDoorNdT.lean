/- The reference's fields. -/
import Derived.Test.YtnhfbbognjdnpaaGreatDoorNaF
namespace Go.Proofs.YtnhfbbognjdnpaaGreatDoor
open Go.RowKit
set_option linter.unusedVariables false
set_option linter.unusedSimpArgs false

end Go.Proofs.YtnhfbbognjdnpaaGreatDoor
