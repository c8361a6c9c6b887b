/- codec.read: behind a value of a list.; codec.read: what a number's bytes tell; a list more under way; errors. -/
import Derived.Test.YtjfjliobencppaaGreatDoorJ15
set_option linter.unusedVariables false
set_option linter.unusedSimpArgs false
namespace Go.Proofs.YtjfjliobencppaaGreatDoor
open Go.RowKit

end Go.Proofs.YtjfjliobencppaaGreatDoor

namespace Go.Proofs.YtjfjliobencppaaGreatDoor
open Go.RowKit

section
variable {w wz w1 : World} {sρ : Option Nat} {so : Option Addr} {scap : Nat} {L : List Ent} {s : ByteArray} {k0 : Int} {n0 : Nat} {s0 : ByteArray} {o0 : Option Addr} {l0 p0 : Nat}
end
end Go.Proofs.YtjfjliobencppaaGreatDoor
