/- PairSums: the law answers true for every input, and leaves its argument as it was. -/
import Derived.Test.YtfakkbjnapelfaaRows
import Derived.WalkKit
import Derived.ProofKit
import Derived.OpenShut
import Derived.ShutString
import Derived.ChangeOld
import Derived.Below
import Derived.Carry
import Derived.Deep.Slices
import Derived.Test.YtfakkbjnapelfaaFH
namespace Go.Proofs.Ytfakkbjnapelfaa.pairSums
open Go.ChangeShapes Go.WideShapes Go.ChangeAt Go.RowKit Go.Deep
set_option linter.unusedVariables false

theorem own : ownKnob Try.prog.godebug = none := by kernel_rfl
theorem laidOut : laidOutB Try.prog = true := by kernel_rfl
theorem cells25 : Try.prog.cellsOf 25 = 2 := by kernel_rfl
theorem cells2 : Try.prog.cellsOf 2 = 1 := by kernel_rfl

section
variable {H : Type} {enc : TypeId × Value → H} {w : World} {sp : Nat → Bool} {held : Bool}

set_option maxRecDepth 100000 in
theorem open_rows {fuel : Nat} {at0 : Option Addr} {n cap : Nat} {x : DataW H × List MemPlace} (h : DataW.trod enc Try.prog w 0 sp held fuel 22 [.slice at0 n cap] = some x) :
    ∃ (l : List (Int × Int)) (b off : Nat), n = l.length ∧ l.length ≤ 9223372036854775807 ∧ (0 < l.length → at0 = some ⟨b, off, none⟩) ∧ (0 < l.length → b < w.heap.size) ∧
      ∀ k (h : k < l.length), w.cell? ⟨b, off + k * 2, none⟩ = some (.int .i64 l[k].1) ∧ w.cell? ⟨b, off + k * 2 + 1, none⟩ = some (.int .i64 l[k].2) := by
  rcases open_slice Try.underlying22 h with ⟨hcs, _⟩ | ⟨a, len, cap', m, n', D, Pl, hcs, hb, hl, hm, hmm, hx, hi⟩
  · simp only [List.cons.injEq, Value.slice.injEq, and_true] at hcs
    obtain ⟨rfl, rfl, rfl⟩ := hcs
    exact ⟨[], 0, 0, rfl, by simp, fun h => absurd h (by simp), fun h => absurd h (by simp), fun k h => absurd h (by simp)⟩
  · simp only [List.cons.injEq, Value.slice.injEq, and_true] at hcs
    obtain ⟨rfl, rfl, rfl⟩ := hcs
    have hnm : n ≤ m := by rw [hmm]; split <;> omega
    obtain ⟨b, off, spot⟩ := a
    have each : ∀ i, i < n → ∃ q : Int × Int, w.cell? (((⟨b, off, spot⟩ : Addr).add (i * 2)).add 0) = some (.int .i64 q.1) ∧ w.cell? (((⟨b, off, spot⟩ : Addr).add (i * 2)).add 1) = some (.int .i64 q.2) := by
      intro i hlt
      obtain ⟨cs', h1, h2⟩ := hi i (by omega)
      rw [cells25] at h1
      obtain ⟨_, hlen, hcell⟩ := World.cells?_some h1
      obtain ⟨xs, m', _, _, _, hxl, hf⟩ := DataW.trod_array Try.underlying25 h2
      match cs', hlen with
      | [v0, v1], _ =>
        match xs, hxl with
        | [x0, x1], _ =>
          simp only [cells2] at hf
          have f0 := hf 0 (by omega)
          have f1 := hf 1 (by omega)
          simp at f0 f1
          obtain ⟨n0, e0, _, _⟩ := DataW.trod_int Try.underlying2 f0
          obtain ⟨n1, e1, _, _⟩ := DataW.trod_int Try.underlying2 f1
          simp at e0 e1
          subst e0 e1
          exact ⟨(n0, n1), hcell 0 (by omega), hcell 1 (by omega)⟩
    obtain ⟨q, hq⟩ := choose_lt each
    refine ⟨(List.range n).map q, b, off, by simp, by simp; unfold maxLen at hm; omega, ?_, ?_, ?_⟩
    · intro hp
      have h0 := (hq 0 (by simpa using hp)).1
      have := World.cell?_spot h0
      unfold Addr.add at this
      simp at this
      rw [this]
    · intro hp
      have h0 := (hq 0 (by simpa using hp)).1
      have hb := World.block_lt_of_cell? w _ h0
      unfold Addr.add at hb
      simpa using hb
    · intro k hk
      have hk' : k < n := by simpa using hk
      have h0 := (hq 0 (by omega)).1
      have hs := World.cell?_spot h0
      unfold Addr.add at hs
      simp at hs
      subst hs
      obtain ⟨g0, g1⟩ := hq k hk'
      rw [add_plain, add_plain] at g0 g1
      simp only [List.getElem_map, List.getElem_range]
      exact ⟨by simpa using g0, by simpa [Nat.add_assoc] using g1⟩
end

set_option maxRecDepth 100000 in
theorem lifted (os : Os) (started : os.Started) (H : Type) (enc : TypeId × Value → H) :
    ReturnsInHanded {} Try.checked os 3 .any (Rows.pairSumsSpec.pre6 enc Try.prog Try.f3 Rows.pairSumsRow.domain false) (Rows.pairSumsSpec.post enc Try.prog Try.f3 false true false false) := by
  refine returnsInHanded_of_change (C := Try.checked) own started (by kernel_rfl) Try.func3
    (ChangeSpec.witness6 (enc := enc) (C := Try.checked) false ⟨#[], #[.slice none 0 0], []⟩ 8 (by kernel_rfl) (by kernel_rfl) (by kernel_rfl) (by kernel_rfl)) ?_
  intro W base args ds gs before hval0 hW hcnd _
  have hval : ∀ (j : Nat) t v, Try.f3.params[j]? = some t → args[j]? = some v → Value.okWide Try.prog W .any base t v := hval0
  have hW' := hW
  obtain ⟨p, q, hA0, hV, rfl, hfz, hnd⟩ := hW
  have hA : DataW.TrodAll enc Try.prog W 0 (fun _ => true) true Try.f3.params.toList args.toList ds p := hA0
  rw [Try.params3] at hA hval
  obtain ⟨v0, vs0, d0, ds0, p0, q0, hargs, rfl, rfl, h0, r0⟩ := trodAll_cons hA
  obtain ⟨rfl, rfl, rfl⟩ := trodAll_nil r0
  obtain rfl : args = #[v0] := by cases args; simp_all
  obtain ⟨rfl, rfl⟩ := trodVars_none hV
  obtain ⟨at0, n, cap, rfl⟩ := okWide_slice Try.underlying22 (hval 0 22 v0 rfl rfl)
  have h0k := h0
  obtain ⟨fuel, hf⟩ := h0
  obtain ⟨l, b, off, rfl, hcap, hat, hblt, hc⟩ := open_rows hf
  clear hA0 hval0
  simp only [List.append_nil] at hW'
  refine (pairSums_walk l at0 cap b off W hcap hat hblt hc).mono fun e W' ⟨he, bel⟩ => ?_
  subst he
  have hlt : ∀ x ∈ p0, x.block < W.heap.size := fun x hx => by simpa using hW'.lt x hx
  exact ⟨_, rfl, _, _, _, [], _, [], hW', (trodAll_cons_mk (shut_bool Try.underlying4 _) trodAll_mk0), (trodAll_cons_mk (Below.trod laidOut (by kernel_rfl) (of_decide_eq_true (by kernel_rfl)) h0k bel hlt) trodAll_mk0), rfl, bel.frame _, fun h => by cases h⟩

theorem over : Rows.pairSumsRow.holds Try.pinned (OpenSpec.ofChange Rows.pairSumsSpec) :=
  OpenClaim.holds_of_wide 3 Try.f3 rfl rfl rfl rfl rfl rfl rfl ⟨rfl, rfl, rfl, rfl, rfl⟩ rfl rfl rfl rfl rfl (by kernel_rfl) Try.func3 (by kernel_rfl)
    (of_decide_eq_true (by kernel_rfl)) (by unfold Func.isWrapper; first | (rw [if_pos (by decide +kernel)]; kernel_rfl) | (rw [if_neg (by decide +kernel)]; exact ⟨rfl, rfl⟩))
    (fun os started H enc _ => lifted os started H enc)

theorem proved : Rows.PairSumsSaid := over
#print axioms proved
end Go.Proofs.Ytfakkbjnapelfaa.pairSums
