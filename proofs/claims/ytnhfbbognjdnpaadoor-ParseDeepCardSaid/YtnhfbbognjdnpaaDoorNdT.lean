/- The reference's fields. -/
import Derived.Test.YtnhfbbognjdnpaaDoorNaF
namespace Go.Proofs.YtnhfbbognjdnpaaDoor
open Go.RowKit
set_option linter.unusedVariables false
set_option linter.unusedSimpArgs false

end Go.Proofs.YtnhfbbognjdnpaaDoor
