/- Acts, texts as arguments, opened; what each string may be. -/
import Derived.Test.YtcoadbagjlcagaaJ04
import Derived.ChangeSame
import Derived.OpenShut
import Derived.Deep.Slices
import Derived.SizedLaws
set_option linter.unusedVariables false
set_option linter.unusedSimpArgs false
namespace Go.Proofs.Ytcoadbagjlcagaa
open Go.ChangeShapes Go.WideShapes Go.RowKit Go.Deep

theorem cells30 : Try.prog.cellsOf 30 = 4 := by kernel_rfl
theorem cells3 : Try.prog.cellsOf 3 = 1 := by kernel_rfl
theorem cells5 : Try.prog.cellsOf 5 = 1 := by kernel_rfl
theorem cells9 : Try.prog.cellsOf 9 = 1 := by kernel_rfl
theorem cells28 : Try.prog.cellsOf 28 = 1 := by kernel_rfl
theorem natU8 {n : Int} (h : (Lit.int .u8 n).wf = true) : ∃ a : Nat, n = a ∧ a ≤ 255 := by
  have h0 : 0 ≤ n ∧ n ≤ 255 := by
    simp [Lit.wf, IntKind.min, IntKind.max, IntKind.signed, IntKind.bits] at h; omega
  exact ⟨n.toNat, by omega, by omega⟩
theorem natU64 {n : Int} (h : (Lit.int .u64 n).wf = true) : ∃ a : Nat, n = a ∧ a ≤ 18446744073709551615 := by
  have h0 : 0 ≤ n ∧ n ≤ 18446744073709551615 := by
    simp [Lit.wf, IntKind.min, IntKind.max, IntKind.signed, IntKind.bits] at h; omega
  exact ⟨n.toNat, by omega, by omega⟩
/-- A part's weights are among the whole's. -/
theorem weights_part {H : Type} {P : Program} {e : TypeId} {d : DataW H} {l : List (DataW H)} (h : d ∈ l) : ∀ n ∈ d.weights P e, n ∈ DataW.weightsAll P e l := by
  induction l with
  | nil => cases h
  | cons x r ih =>
    intro n hn
    simp only [DataW.weightsAll, List.mem_append]
    rcases List.mem_cons.1 h with e | e
    · subst e; exact Or.inl hn
    · exact Or.inr (ih e n hn)
section
variable {H : Type} {enc : TypeId × Value → H} {w : World} {sp : Nat → Bool} {held : Bool}
set_option maxRecDepth 100000 in
theorem trod_ac {fuel : Nat} {cs : List Value} {x : DataW H × List MemPlace} (h : DataW.trod enc Try.prog w 0 sp held fuel 30 cs = some x) :
    ∃ q : Ac, cs = [.int .u8 (q.d : Int), .int .u64 (q.t : Int), .string q.s, .int .i64 q.i] ∧ q.d ≤ 255 ∧ q.s.size ∈ x.1.weights Try.prog 30 := by
  obtain ⟨xs, n, hx, rfl, hl, hlen, hf⟩ := DataW.trod_struct Try.underlying30 h
  rw [cells30] at hl
  match cs, hl with
  | [v0, v1, v2, v3], _ =>
    match xs, hlen with
    | [x0, x1, x2, x3], _ =>
      have f0 := hf 0 _ rfl
      have f1 := hf 1 _ rfl
      have f2 := hf 2 _ rfl
      have f3 := hf 3 _ rfl
      simp [cells3, cells5, cells9, cells28] at f0 f1 f2 f3
      obtain ⟨a0, e0, _, w0⟩ := DataW.trod_int Try.underlying5 f0
      obtain ⟨a1, e1, _, w1⟩ := DataW.trod_int Try.underlying28 f1
      obtain ⟨s2, e2, ex, _⟩ := DataW.trod_string Try.underlying9 f2
      obtain ⟨a3, e3, _, w3⟩ := DataW.trod_int Try.underlying3 f3
      simp at e0 e1 e2 e3
      obtain ⟨b0, rfl, h0⟩ := natU8 w0
      obtain ⟨b1, rfl, h1⟩ := natU64 w1
      refine ⟨⟨b0, b1, s2, a3⟩, by rw [e0, e1, e2, e3], h0, ?_⟩
      show s2.size ∈ DataW.weights Try.prog 30 (.agg [x0.1, x1.1, x2.1, x3.1])
      rw [ex]
      have hbs : s2.data.size = s2.size := rfl
      simp [DataW.weights, Try.underlying30, DataW.weightsEach, hbs]
set_option maxRecDepth 100000 in
theorem open_acts {fuel : Nat} {at0 : Option Addr} {n cap : Nat} {x : DataW H × List MemPlace} (h : DataW.trod enc Try.prog w 0 sp held fuel 22 [.slice at0 n cap] = some x) (hw : ∀ k ∈ x.1.weights Try.prog 22, k ≤ reachBytes) :
    ∃ (l : List Ac) (b off : Nat), n = l.length ∧ (0 < l.length → at0 = some ⟨b, off, none⟩ ∧ b < w.heap.size) ∧ AcsIn w b off l := by
  rcases open_slice Try.underlying22 h with ⟨hcs, _⟩ | ⟨a, len, cap', m, n', D, Pl, hcs, hb, hl, hm, hmm, hx, hi⟩
  · simp only [List.cons.injEq, Value.slice.injEq, and_true] at hcs
    obtain ⟨rfl, rfl, rfl⟩ := hcs
    exact ⟨[], 0, 0, rfl, fun h => absurd h (by simp), fun k h => absurd h (by simp)⟩
  · simp only [List.cons.injEq, Value.slice.injEq, and_true] at hcs
    obtain ⟨rfl, rfl, rfl⟩ := hcs
    have hnm : n ≤ m := by rw [hmm]; split <;> omega
    obtain ⟨b, off, spot⟩ := a
    have each : ∀ i, i < n → ∃ q : Ac, (∀ j u, [Value.int .u8 (q.d : Int), .int .u64 (q.t : Int), .string q.s, .int .i64 q.i][j]? = some u → w.cell? (((⟨b, off, spot⟩ : Addr).add (i * 4)).add j) = some u) ∧ q.ok := by
      intro i hlt
      obtain ⟨cs', h1, h2⟩ := hi i (by omega)
      rw [cells30] at h1
      obtain ⟨_, hlen2, hcell⟩ := World.cells?_some h1
      obtain ⟨q, rfl, hd, hs⟩ := trod_ac h2
      refine ⟨q, fun j u hj => ?_, hd, ?_⟩
      · obtain ⟨hjl, he⟩ := (List.getElem?_eq_some_iff.1 hj)
        have := hcell j (by simpa using hjl)
        rw [this]
        first | (rw [← he]; rfl) | (rw [← he]; simp) | (simpa using hj)
      · have hmem : D i ∈ (List.range n).map D := List.mem_map.2 ⟨i, by simpa using hlt, rfl⟩
        have hk := weights_part (P := Try.prog) (e := 30) hmem _ hs
        have := hw q.s.size (by
          rw [hx]
          simp only [DataW.weights, Try.underlying22, List.mem_cons, List.mem_append]
          exact Or.inr (Or.inl hk))
        unfold reachBytes at this
        omega
    obtain ⟨q, hq⟩ := choose_lt each
    have hspot : 0 < n → spot = none ∧ b < w.heap.size := by
      intro hp
      have h0 := (hq 0 hp).1 0 _ rfl
      have hs := World.cell?_spot h0
      have hbl := World.block_lt_of_cell? w _ h0
      unfold Addr.add at hs hbl
      simp at hs hbl
      exact ⟨hs, hbl⟩
    refine ⟨(List.range n).map q, b, off, by simp, ?_, ?_⟩
    · intro hp
      have h1 := hspot (by simpa using hp)
      exact ⟨by rw [h1.1], h1.2⟩
    · intro k hk
      have hk' : k < n := by simpa using hk
      have hs := (hspot (by omega)).1
      subst hs
      obtain ⟨hc, hok⟩ := hq k hk'
      have cc : ∀ j u, [Value.int .u8 ((q k).d : Int), .int .u64 ((q k).t : Int), .string (q k).s, .int .i64 (q k).i][j]? = some u → w.cell? ⟨b, off + k * 4 + j, none⟩ = some u := fun j u hj => by
        have := hc j u hj
        rw [Addr.add_mid, Addr.add_mid] at this
        exact this
      simp only [List.getElem_map, List.getElem_range]
      exact ⟨cc 0 _ rfl, cc 1 _ rfl, cc 2 _ rfl, cc 3 _ rfl, hok⟩
end
end Go.Proofs.Ytcoadbagjlcagaa
