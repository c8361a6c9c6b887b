/- A slice of frames as an argument, opened. -/
import Derived.Test.YtlochpnifjmefaaFV
import Derived.Test.YtlochpnifjmefaaSA
import Derived.Deep.Slices
namespace Go.Proofs.Ytlochpnifjmefaa
open Go.ChangeShapes Go.WideShapes Go.ChangeAt Go.RowKit Go.Deep

section
variable {H : Type} {enc : TypeId × Value → H} {w : World} {sp : Nat → Bool} {held : Bool}
set_option maxRecDepth 100000 in
theorem open_frames {fuel : Nat} {at0 : Option Addr} {n cap : Nat} {x : DataW H × List MemPlace} (h : DataW.trod enc Try.prog w 0 sp held fuel 63 [.slice at0 n cap] = some x) :
    ∃ (l : List Fri) (b off : Nat), n = l.length ∧ l.length ≤ 9223372036854775807 ∧ (0 < l.length → at0 = some ⟨b, off, none⟩) ∧ (0 < l.length → b < w.heap.size) ∧ Lie w b off l ∧ ∀ f ∈ l, f.2.1 ≤ 18446744073709551615 := by
  rcases open_slice Try.underlying63 h with ⟨hcs, _⟩ | ⟨a, len, cap', m, n', D, Pl, hcs, hb, hl, hm, hmm, hx, hi⟩
  · simp only [List.cons.injEq, Value.slice.injEq, and_true] at hcs
    obtain ⟨rfl, rfl, rfl⟩ := hcs
    exact ⟨[], 0, 0, rfl, by simp, fun h => absurd h (by simp), fun h => absurd h (by simp), fun k h => absurd h (by simp), fun f hf => absurd hf (by simp)⟩
  · simp only [List.cons.injEq, Value.slice.injEq, and_true] at hcs
    obtain ⟨rfl, rfl, rfl⟩ := hcs
    have hnm : n ≤ m := by rw [hmm]; split <;> omega
    obtain ⟨b, off, spot⟩ := a
    have each : ∀ i, i < n → ∃ q : Fri, w.cell? (((⟨b, off, spot⟩ : Addr).add (i * 3)).add 0) = some (.int .i64 q.1) ∧ w.cell? (((⟨b, off, spot⟩ : Addr).add (i * 3)).add 1) = some (.int .u64 (q.2.1 : Int)) ∧ w.cell? (((⟨b, off, spot⟩ : Addr).add (i * 3)).add 2) = some (.string q.2.2) ∧ q.2.1 ≤ 18446744073709551615 := by
      intro i hlt
      obtain ⟨cs', h1, h2⟩ := hi i (by omega)
      rw [cells51] at h1
      obtain ⟨_, hlen, hcell⟩ := World.cells?_some h1
      obtain ⟨k, e, bd, _, he, _, rfl⟩ := trod_fr h2
      exact ⟨(k, e, bd), hcell 0 (by omega), hcell 1 (by omega), hcell 2 (by omega), he⟩
    obtain ⟨q, hq⟩ := choose_lt each
    refine ⟨(List.range n).map q, b, off, by simp, by simp; unfold maxLen at hm; omega, ?_, ?_, ?_, ?_⟩
    · intro hp
      have h0 := (hq 0 (by simpa using hp)).1
      have := World.cell?_spot h0
      unfold Addr.add at this
      simp at this
      rw [this]
    · intro hp
      have h0 := (hq 0 (by simpa using hp)).1
      have hb := World.block_lt_of_cell? w _ h0
      unfold Addr.add at hb
      simpa using hb
    · intro k hk
      have hk' : k < n := by simpa using hk
      have h0 := (hq 0 (by omega)).1
      have hs := World.cell?_spot h0
      unfold Addr.add at hs
      simp at hs
      subst hs
      obtain ⟨g0, g1, g2, _⟩ := hq k hk'
      rw [add_plain, add_plain] at g0 g1 g2
      simp only [List.getElem_map, List.getElem_range]
      exact ⟨by simpa using g0, by simpa [Nat.add_assoc] using g1, by simpa [Nat.add_assoc] using g2⟩
    · intro f hf
      obtain ⟨i, hi2, rfl⟩ := List.mem_map.1 hf
      exact (hq i (by simpa using hi2)).2.2.2
end
end Go.Proofs.Ytlochpnifjmefaa
