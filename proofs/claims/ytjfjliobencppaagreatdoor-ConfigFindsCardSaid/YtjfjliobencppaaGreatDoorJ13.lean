/- (*codec.row).take: one value more. -/
import Derived.Test.YtjfjliobencppaaGreatDoorJ12
set_option linter.unusedVariables false
set_option linter.unusedSimpArgs false
namespace Go.Proofs.YtjfjliobencppaaGreatDoor
open Go.RowKit

def z4 : List Value := [.int .i64 0, .int .u64 0, .string ⟨#[]⟩, .slice none 0 0]
/-- Both stores of a turn, in either order. -/
def TkS (w7 : World) (r7 r cap n i : Nat) (xs : List Value) (cur : Array Value) (v : Value) (A : World) : Prop :=
  VRow 69 (some r7) (some ⟨r7, 0, none⟩) cap (n + 1) xs A ∧ A.heap[r]? = some (.cells (cur.setIfInBounds (i + 1) v) 169 (0, 0)) ∧ A.os = w7.os ∧ A.tape = w7.tape ∧ A.output = w7.output ∧ A.heap.size = w7.heap.size ∧ ∀ q, q ≠ r → q ≠ r7 → A.heap[q]? = w7.heap[q]?
end Go.Proofs.YtjfjliobencppaaGreatDoor
