/- Texts as arguments, opened. -/
import Derived.Test.YtcoadbagjlcagaaJ08
import Derived.Test.YtcoadbagjlcagaaJ06
set_option linter.unusedVariables false
set_option linter.unusedSimpArgs false
namespace Go.Proofs.Ytcoadbagjlcagaa
open Go.ChangeShapes Go.WideShapes Go.RowKit Go.Deep
section
variable {H : Type} {enc : TypeId × Value → H} {w : World} {sp : Nat → Bool} {held : Bool}
set_option maxRecDepth 100000 in
theorem open_texts {fuel : Nat} {at0 : Option Addr} {n cap : Nat} {x : DataW H × List MemPlace} (h : DataW.trod enc Try.prog w 0 sp held fuel 48 [.slice at0 n cap] = some x) (hw : ∀ k ∈ x.1.weights Try.prog 48, k ≤ reachBytes) :
    ∃ (l : List ByteArray) (b off : Nat), n = l.length ∧ (∀ s ∈ l, s.size ≤ 140737488355328) ∧ (0 < l.length → at0 = some ⟨b, off, none⟩ ∧ b < w.heap.size) ∧ SsIn w b off l := by
  rcases open_slice1 Try.underlying48 cells9 h with ⟨hcs, _⟩ | ⟨a, len, cap', m, n', V, D, Pl, hcs, hb, hl, hm, hmm, hx, hi⟩
  · simp only [List.cons.injEq, Value.slice.injEq, and_true] at hcs
    obtain ⟨rfl, rfl, rfl⟩ := hcs
    exact ⟨[], 0, 0, rfl, by simp, fun h => absurd h (by simp), fun k h => absurd h (by simp)⟩
  · simp only [List.cons.injEq, Value.slice.injEq, and_true] at hcs
    obtain ⟨rfl, rfl, rfl⟩ := hcs
    have hnm : n ≤ m := by rw [hmm]; split <;> omega
    obtain ⟨b, off, spot⟩ := a
    have each : ∀ i, i < n → ∃ q : ByteArray, w.cell? ((⟨b, off, spot⟩ : Addr).add i) = some (.string q) ∧ q.size ≤ 140737488355328 := by
      intro i hlt
      obtain ⟨h1, h2⟩ := hi i (by omega)
      obtain ⟨s, e0, ex, _⟩ := DataW.trod_string Try.underlying9 h2
      simp at e0
      refine ⟨s, by rw [h1, e0], ?_⟩
      have hD : D i = .lit (.string s.data.toList) := by
        have := congrArg Prod.fst ex
        exact this
      have hmem : D i ∈ (List.range n).map D := List.mem_map.2 ⟨i, by simpa using hlt, rfl⟩
      have hs : s.size ∈ (D i).weights Try.prog 9 := by
        rw [hD]
        have hbs : s.data.size = s.size := rfl
        simp [DataW.weights, hbs]
      have hk := weights_part (P := Try.prog) (e := 9) hmem _ hs
      have := hw s.size (by
        rw [hx]
        simp only [DataW.weights, Try.underlying48, List.mem_cons, List.mem_append]
        exact Or.inr (Or.inl hk))
      unfold reachBytes at this
      omega
    obtain ⟨q, hq⟩ := choose_lt each
    have hspot : 0 < n → spot = none ∧ b < w.heap.size := by
      intro hp
      have h0 := (hq 0 hp).1
      have hs := World.cell?_spot h0
      have hbl := World.block_lt_of_cell? w _ h0
      unfold Addr.add at hs hbl
      simp at hs hbl
      exact ⟨hs, hbl⟩
    refine ⟨(List.range n).map q, b, off, by simp, ?_, ?_, ?_⟩
    · intro s hs
      simp only [List.mem_map, List.mem_range] at hs
      obtain ⟨i, hi, rfl⟩ := hs
      exact (hq i hi).2
    · intro hp
      have h1 := hspot (by simpa using hp)
      exact ⟨by rw [h1.1], h1.2⟩
    · intro k hk
      have hk' : k < n := by simpa using hk
      have hs := (hspot (by omega)).1
      subst hs
      have hc := (hq k hk').1
      rw [Addr.add_mid] at hc
      simp only [List.getElem_map, List.getElem_range]
      exact hc
end
end Go.Proofs.Ytcoadbagjlcagaa
