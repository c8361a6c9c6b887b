/- Bytes of a text, more appended: the row may bear a mark behind its last cell. -/
import Derived.Test.YtfakkbjnapelfaaDS
import Derived.Lib.BufferMore
namespace Go.Proofs.Ytfakkbjnapelfaa.Dg
open Go.RowKit

/-- The call's own row of bytes. -/
def MR (B : Nat) (v : Value) (l : List UInt8) (w : World) : Prop :=
  ∃ g cap cs T lo hi, v = .slice (some ⟨g, 0, none⟩) l.length cap ∧ B ≤ g ∧ l.length ≤ cap ∧ w.heap[g]? = some (.cells cs T (lo, hi)) ∧ cap ≤ cs.size ∧ (hi = 0 ∨ cap ≤ lo) ∧ ∀ j (hj : j < l.length), cs[j]? = some (.int .u8 (l[j].toNat : Int))
theorem MR.later {B : Nat} {v : Value} {l : List UInt8} {w w' : World} (h : MR B v l w) (hb : Below w.heap.size w w') : MR B v l w' := by
  obtain ⟨g, cap, cs, T, lo, hi, h1, h2, h3, h4, h5⟩ := h
  exact ⟨g, cap, cs, T, lo, hi, h1, h2, h3, (hb.block _ (lt_of_some h4)).trans h4, h5⟩
theorem mr_start (s : ByteArray) (w : World) : ∃ v w', (convert 9 46 (.string s)).run Try.prog w = .ok v w' ∧ MR w.heap.size v s.data.toList w' ∧ Below w.heap.size w w' := by
  refine ⟨_, _, run_bytes_of_string w 9 46 5 s Try.underlying9 Try.underlying46 Try.underlying5, ?_, ((Below.refl _ w).drew).alloc (Nat.le_refl _) _⟩
  have hc := grownCap_ge w s.size 0 5
  generalize grownCap w s.size 0 5 = cap at *
  have hsz : (bytesRow s cap).size = cap := by
    rw [bytesRow, Array.size_append, Array.size_map, Array.size_replicate]
    show s.size + (cap - s.size) = cap
    omega
  refine ⟨w.heap.size, cap, bytesRow s cap, 5, (bytesRow s cap).size, (bytesRow s cap).size + 1, rfl, Nat.le_refl _, hc, ?_, by omega, Or.inr (by omega), ?_⟩
  · show (w.heap.push _)[w.heap.size]? = _
    simp
  · intro j hj
    have hd : j < s.data.size := by simpa using hj
    rw [bytesRow, Array.getElem?_append_left (by simpa using hj), Array.getElem?_map, Array.getElem?_eq_getElem hd]
    simp
theorem mr_append {B : Nat} {v : Value} {l : List UInt8} {w : World} (h : MR B v l w) (c : UInt8) (b : Nat) (hb : w.cell? ⟨b, 0, none⟩ = some (.int .u8 (c.toNat : Int))) (hl : l.length ≤ 10000) (hB : B ≤ w.heap.size) (ty : TypeId) :
    ∃ v' w', (Builtin.append_ #[46, 46] ty #[v, .slice (some ⟨b, 0, none⟩) 1 1]).run Try.prog w = .ok v' w' ∧ MR B v' (l ++ [c]) w' ∧ Below B w w' := by
  obtain ⟨g, cap, cs, T, lo, hi, rfl, hBg, hlc, hg, hcs, hfr, hcell⟩ := h
  obtain ⟨i0, hi0, hz0, hz1, hz2⟩ := info_parts W.Try.info5
  have hnews : ∀ j u, [Value.int .u8 (c.toNat : Int)][j]? = some u → w.cell? ((⟨b, 0, none⟩ : Addr).add j) = some u := by
    intro j u hj
    match j, hj with
    | 0, hj => simp at hj; subst hj; exact hb
  by_cases hroom : l.length + 1 ≤ cap
  · have hf := run_firstCells_some (P := Try.prog) w 1 1 ⟨b, 0, none⟩ 1 1 [.int .u8 (c.toNat : Int)] rfl hnews
    have hfz : w.frozen? ⟨g, l.length, none⟩ = false := by
      simp only [World.frozen?, hg]
      rcases hfr with h0 | h0
      · subst h0; simp
      · simp; omega
    have hcl : w.cell? ⟨g, l.length, none⟩ = some cs[l.length] := by rw [cell_of_row w g _ cs T _ hg, Array.getElem?_eq_getElem (by omega)]
    have hst : (store ⟨g, l.length, none⟩ (.int .u8 (c.toNat : Int))).run Try.prog w = .ok () (w.setCell ⟨g, l.length, none⟩ (.int .u8 (c.toNat : Int))) := by
      rw [run_store Try.prog w _ _ _ rfl]
      simp [hcl, hfz]
    refine ⟨.slice (some ⟨g, 0, none⟩) (l.length + 1) cap, w.setCell ⟨g, l.length, none⟩ (.int .u8 (c.toNat : Int)), ?_, ?_, (Below.refl _ _).setCell hBg _⟩
    · simp [Builtin.append_, run_underlying Try.underlying46, sizeOf, typeInfo, hi0, hz1, Builtin.lenOf, hroom, hf, Addr.add_lit, storeCells, hst]
    · refine ⟨g, cap, cs.setIfInBounds l.length (.int .u8 (c.toNat : Int)), T, lo, hi, by simp, hBg, by simp; omega, Go.Lib.heap_setCell_same hg _, by simpa using hcs, hfr, ?_⟩
      intro j hj
      have hj2 : j < l.length + 1 := by simpa using hj
      by_cases hjl : j < l.length
      · rw [Array.getElem?_setIfInBounds_ne (by omega), hcell j hjl, List.getElem_append_left hjl]
      · have : j = l.length := by omega
        subst this
        rw [Array.getElem?_setIfInBounds_self_of_lt (by omega)]
        simp
  · have hg2 := run_append_grow (P := Try.prog) w 46 ty 5 i0 (.int .u8 0) Try.underlying46 hi0 hz0 ⟨g, 0, none⟩ l.length cap (W.bcells l) (by rw [hz1]; simp [W.bcells]) (by
      intro j u hj
      have hj2 : j < l.length := by
        have := List.getElem?_eq_some_iff.1 hj
        obtain ⟨hq, _⟩ := this
        simpa [W.bcells] using hq
      rw [show (⟨g, 0, none⟩ : Addr).add j = ⟨g, j, none⟩ by unfold Addr.add; split <;> simp_all, cell_of_row w g j cs T _ hg, hcell j hj2]
      simpa [W.bcells, hj2] using hj) ⟨b, 0, none⟩ 1 1 [.int .u8 (c.toNat : Int)] (by rw [hz1]; rfl) hnews (by omega) (by omega) (growslice_fits (by omega) (by rw [hz2]; omega))
    have hge := grownCap_ge w (l.length + 1) cap 5
    generalize grownCap w (l.length + 1) cap 5 = cap2 at *
    have hsz : ((W.bcells l).toArray ++ [Value.int .u8 (c.toNat : Int)].toArray ++ Builtin.zeroCells (Value.int .u8 0).cells (cap2 - (l.length + 1))).size = cap2 := by
      rw [Array.size_append, Array.size_append, size_zeroCells]
      simp [W.bcells, Value.cells]
      omega
    refine ⟨_, _, hg2, ⟨w.heap.size, cap2, _, 5, 0, 0, by simp, hB, by simp; omega, heap_alloc_new w.drew _, by omega, Or.inl rfl, ?_⟩, ((Below.refl B w).drew).alloc hB _⟩
    intro j hj
    have hj2 : j < l.length + 1 := by simpa using hj
    rw [Array.getElem?_append_left (by simp [W.bcells]; omega)]
    simp only [List.append_toArray, List.getElem?_toArray]
    rw [show W.bcells l ++ [Value.int .u8 (c.toNat : Int)] = W.bcells (l ++ [c]) by simp [W.bcells]]
    rw [show (W.bcells (l ++ [c]))[j]? = some (.int .u8 ((l ++ [c])[j].toNat : Int)) by
      unfold W.bcells
      rw [List.getElem?_map, List.getElem?_eq_getElem hj]; rfl]
end Go.Proofs.Ytfakkbjnapelfaa.Dg
