/- The reference's fields. -/
import Derived.Test.YtfajbkpeioejoaaDoorNaF
namespace Go.Proofs.YtfajbkpeioejoaaDoor
open Go.RowKit
set_option linter.unusedVariables false
set_option linter.unusedSimpArgs false

end Go.Proofs.YtfajbkpeioejoaaDoor
