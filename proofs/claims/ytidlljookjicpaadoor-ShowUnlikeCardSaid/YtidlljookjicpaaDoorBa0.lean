/- The empty text. -/
import Derived.Test.YtidlljookjicpaaDoorChecked
namespace Go.Proofs.YtidlljookjicpaaDoor
def ba0 : ByteArray := ⟨#[]⟩
end Go.Proofs.YtidlljookjicpaaDoor
