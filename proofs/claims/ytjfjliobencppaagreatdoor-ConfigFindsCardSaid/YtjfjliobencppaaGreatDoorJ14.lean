/- codec.read: its closures, and what holds of its memory. -/
import Derived.Test.YtjfjliobencppaaGreatDoorJ13
import Derived.ScopeJumps
set_option linter.unusedVariables false
set_option linter.unusedSimpArgs false
namespace Go.Proofs.YtjfjliobencppaaGreatDoor
open Go.RowKit

/-- By a goto to a label: J of it. -/
def Exit.jumps (J : Nat → Act → World → Prop) (Q : Exit → Act → World → Prop) : Exit → Act → World → Prop
  | .goto l, a, w => J l a w
  | e, a, w => Q e a w
def stk (L : List Ent) : List (Nat × List Tr) := (L.map fun e => (e.left, e.hv)).reverse
/-- What holds of the memory while a text is read. -/
structure RdW (w : World) (sρ : Option Nat) (so : Option Addr) (scap : Nat) (L : List Ent) (s : ByteArray) (k0 : Int) (n0 : Nat) (s0 : ByteArray) (o0 : Option Addr) (l0 p0 : Nat) (wz : World) : Prop where
  below : Below w.heap.size w wz
  bs : wz.heap[w.heap.size]? = some (.cells #[.string s] 9 (0, 0))
  br : wz.heap[w.heap.size + 1]? = some (.cells #[.int .i64 0, .int .u64 0, .string ⟨#[]⟩, .slice none 0 0] 69 (0, 0))
  bb : wz.heap[w.heap.size + 2]? = some (.cells #[.slice so L.length scap] 165 (0, 0))
  bv : wz.heap[w.heap.size + 3]? = some (.cells #[.int .i64 k0, .int .u64 (n0 : Int), .string s0, .slice o0 l0 p0] 69 (0, 0))
  st : StW (w.heap.size + 4) sρ so scap L wz
section
variable {w wz w1 : World} {sρ : Option Nat} {so : Option Addr} {scap : Nat} {L : List Ent} {s : ByteArray} {k0 : Int} {n0 : Nat} {s0 : ByteArray} {o0 : Option Addr} {l0 p0 : Nat}
end
end Go.Proofs.YtjfjliobencppaaGreatDoor
