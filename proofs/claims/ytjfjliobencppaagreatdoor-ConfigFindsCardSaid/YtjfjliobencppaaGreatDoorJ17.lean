/- codec.read: at a value's beginning. -/
import Derived.Test.YtjfjliobencppaaGreatDoorJ16
set_option linter.unusedVariables false
set_option linter.unusedSimpArgs false
namespace Go.Proofs.YtjfjliobencppaaGreatDoor
open Go.RowKit

end Go.Proofs.YtjfjliobencppaaGreatDoor
