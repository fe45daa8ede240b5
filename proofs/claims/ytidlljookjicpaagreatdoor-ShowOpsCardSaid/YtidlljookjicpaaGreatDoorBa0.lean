/- The empty text. -/
import Derived.Test.YtidlljookjicpaaGreatDoorChecked
namespace Go.Proofs.YtidlljookjicpaaGreatDoor
def ba0 : ByteArray := ⟨#[]⟩
end Go.Proofs.YtidlljookjicpaaGreatDoor
