/- Which place is ahead. -/
import Derived.Test.YtjfjliobencppaaGreatDoorJ33
set_option linter.unusedVariables false
set_option linter.unusedSimpArgs false
namespace Go.Proofs.YtjfjliobencppaaGreatDoor.Sp
open Go.RowKit

/-- A block's cells are a place's. -/
def PlAt (g a b c d p : Nat) (w : World) : Prop :=
  w.cell? ⟨g, 0, none⟩ = some (.int .u8 a) ∧ w.cell? ⟨g, 1, none⟩ = some (.int .u8 b) ∧ w.cell? ⟨g, 2, none⟩ = some (.int .u8 c) ∧ w.cell? ⟨g, 3, none⟩ = some (.int .u8 d) ∧ w.cell? ⟨g, 4, none⟩ = some (.int .u16 p)
theorem PlAt.later {g a b c d p : Nat} {w w' : World} (h : PlAt g a b c d p w) (hg : g < w.heap.size) (hb : Below w.heap.size w w') : PlAt g a b c d p w' := by
  obtain ⟨h0, h1, h2, h3, h4⟩ := h
  exact ⟨by rw [hb.cell (p := ⟨g, 0, none⟩) hg]; exact h0, by rw [hb.cell (p := ⟨g, 1, none⟩) hg]; exact h1, by rw [hb.cell (p := ⟨g, 2, none⟩) hg]; exact h2, by rw [hb.cell (p := ⟨g, 3, none⟩) hg]; exact h3, by rw [hb.cell (p := ⟨g, 4, none⟩) hg]; exact h4⟩
def cmpN (a b c d p a2 b2 c2 d2 p2 : Nat) : Int := Lib.compareBytes (bytesN a b c d p) (bytesN a2 b2 c2 d2 p2)

end Go.Proofs.YtjfjliobencppaaGreatDoor.Sp
