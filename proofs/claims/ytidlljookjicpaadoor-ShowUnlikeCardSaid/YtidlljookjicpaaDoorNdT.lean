/- The reference's fields. -/
import Derived.Test.YtidlljookjicpaaDoorNaF
namespace Go.Proofs.YtidlljookjicpaaDoor
open Go.RowKit
set_option linter.unusedVariables false
set_option linter.unusedSimpArgs false

end Go.Proofs.YtidlljookjicpaaDoor
