/- Rows of numbers as arguments, opened. -/
import Derived.Test.YtdojepkmjifoeaaJ49
import Derived.ChangeSame
import Derived.OpenShut
import Derived.Deep.Slices
set_option linter.unusedVariables false
set_option linter.unusedSimpArgs false
namespace Go.Proofs.Ytdojepkmjifoeaa
open Go.ChangeShapes Go.WideShapes Go.RowKit Go.Deep

theorem plain_addq (b o j : Nat) : (⟨b, o, none⟩ : Addr).add j = ⟨b, o + j, none⟩ := by unfold Addr.add; split <;> simp_all
theorem cells22q : Try.prog.cellsOf 22 = 1 := by kernel_rfl
theorem wf_u64 {n : Int} (h : (Lit.int .u64 n).wf = true) : 0 ≤ n ∧ n ≤ 18446744073709551615 := by
  simp [Lit.wf, IntKind.min, IntKind.max, IntKind.signed, IntKind.bits] at h; omega
section
variable {H : Type} {enc : TypeId × Value → H} {w : World} {sp : Nat → Bool} {held : Bool}
set_option maxRecDepth 100000 in
theorem open_nums {fuel : Nat} {at0 : Option Addr} {n cap : Nat} {x : DataW H × List MemPlace} (h : DataW.trod enc Try.prog w 0 sp held fuel 23 [.slice at0 n cap] = some x) :
    ∃ (l : List Nat) (b off : Nat), n = l.length ∧ (∀ x ∈ l, x ≤ 18446744073709551615) ∧ (0 < l.length → at0 = some ⟨b, off, none⟩ ∧ b < w.heap.size) ∧ ∀ k (h : k < l.length), w.cell? ⟨b, off + k, none⟩ = some (.int .u64 (l[k] : Int)) := by
  rcases open_slice Try.underlying23 h with ⟨hcs, _⟩ | ⟨a, len, cap', m, n', D, Pl, hcs, hb, hl, hm, hmm, hx, hi⟩
  · simp only [List.cons.injEq, Value.slice.injEq, and_true] at hcs
    obtain ⟨rfl, rfl, rfl⟩ := hcs
    exact ⟨[], 0, 0, rfl, by simp, fun h => absurd h (by simp), fun k h => absurd h (by simp)⟩
  · simp only [List.cons.injEq, Value.slice.injEq, and_true] at hcs
    obtain ⟨rfl, rfl, rfl⟩ := hcs
    have hnm : n ≤ m := by rw [hmm]; split <;> omega
    obtain ⟨b, off, spot⟩ := a
    have each : ∀ i, i < n → ∃ q : Nat, w.cell? ((⟨b, off, spot⟩ : Addr).add i) = some (.int .u64 (q : Int)) ∧ q ≤ 18446744073709551615 := by
      intro i hlt
      obtain ⟨cs', h1, h2⟩ := hi i (by omega)
      rw [cells22q] at h1
      obtain ⟨_, hlen2, hcell⟩ := World.cells?_some h1
      obtain ⟨q, e1, _, hwf⟩ := DataW.trod_int Try.underlying22 h2
      subst e1
      have hq := wf_u64 hwf
      have h0 := hcell 0 (by simp)
      rw [Nat.mul_one] at h0
      have ez : ((⟨b, off, spot⟩ : Addr).add i).add 0 = (⟨b, off, spot⟩ : Addr).add i := by unfold Addr.add; simp
      rw [ez] at h0
      refine ⟨q.toNat, ?_, by omega⟩
      rw [Int.toNat_of_nonneg hq.1]
      exact h0
    obtain ⟨q, hq⟩ := choose_lt each
    have hspot : 0 < n → spot = none ∧ b < w.heap.size := by
      intro hp
      have h0 := (hq 0 hp).1
      have hs := World.cell?_spot h0
      have hbl := World.block_lt_of_cell? w _ h0
      unfold Addr.add at hs hbl
      simp at hs hbl
      exact ⟨hs, hbl⟩
    refine ⟨(List.range n).map q, b, off, by simp, ?_, ?_, ?_⟩
    · intro x hx
      simp at hx
      obtain ⟨i, hi, rfl⟩ := hx
      exact (hq i hi).2
    · intro hp
      have h1 := hspot (by simpa using hp)
      exact ⟨by rw [h1.1], h1.2⟩
    · intro k hk
      have hk' : k < n := by simpa using hk
      have hs := (hspot (by omega)).1
      subst hs
      obtain ⟨hc, hok⟩ := hq k hk'
      rw [plain_addq] at hc
      simp only [List.getElem_map, List.getElem_range]
      exact hc
end
end Go.Proofs.Ytdojepkmjifoeaa
