/- The bodies of the loops of the document's sum. -/
import Derived.Test.YtfakkbjnapelfaaDZ
import Derived.BigQuiet
import Derived.StillTailTactics
namespace Go.Proofs.Ytfakkbjnapelfaa.Dg
open Go.RowKit

def loopsIn : Code → List Code
  | .loop c => c :: loopsIn c
  | .seq a b => loopsIn a ++ loopsIn b
  | .block _ c => loopsIn c
  | .scope c => loopsIn c
  | .cond _ a b => loopsIn a ++ loopsIn b
  | _ => []
noncomputable def body20 (n : Nat) : Code := ((Try.f20.body.bind fun c => (loopsIn c)[n]?).getD .skip)
end Go.Proofs.Ytfakkbjnapelfaa.Dg
