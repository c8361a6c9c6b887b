/- The document's Deep and Bare. -/
import Derived.Test.YtjfjliobencppaaGreatDoorR02
set_option linter.unusedVariables false
set_option linter.unusedSimpArgs false
namespace Go.Proofs.YtjfjliobencppaaGreatDoor
open Go.RowKit
end Go.Proofs.YtjfjliobencppaaGreatDoor
