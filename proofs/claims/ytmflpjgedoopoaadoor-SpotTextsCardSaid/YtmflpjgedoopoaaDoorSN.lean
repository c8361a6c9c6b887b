/- spot.Of. -/
import Derived.Test.YtmflpjgedoopoaaDoorSI
import Derived.Laws.IdiomCopy
namespace Go.Proofs.YtmflpjgedoopoaaDoor
open Go.RowKit

/-- A text's byte, as a number. -/
def byt (s : ByteArray) (j : Nat) : Nat := (s.data.toList.getD j 0).toNat
theorem byt_lt (s : ByteArray) (j : Nat) : byt s j < 256 := UInt8.toNat_lt _
def ofCs (s : ByteArray) : List Value := [.int .u8 (byt s 0), .int .u8 (byt s 1), .int .u8 (byt s 2), .int .u8 (byt s 3)]
theorem six (s : ByteArray) (hs : s.size = 6) : ∃ c0 c1 c2 c3 c4 c5, s = ⟨#[c0, c1, c2, c3, c4, c5]⟩ := by
  obtain ⟨⟨l⟩⟩ := s
  match l, hs with
  | [c0, c1, c2, c3, c4, c5], _ => exact ⟨c0, c1, c2, c3, c4, c5, rfl⟩
theorem first_four (s : ByteArray) (hs : s.size = 6) (w : World) : (Builtin.firstCells 1 4 (.string s)).run Tryd.prog w = .ok (ofCs s).toArray w := by
  obtain ⟨c0, c1, c2, c3, c4, c5, rfl⟩ := six s hs
  simp [Builtin.firstCells, ofCs, byt, ByteArray.data_extract]
theorem of_copy (s : ByteArray) (hs : s.size = 6) (w : World) : ∃ W1, (Builtin.copy_ #[56, 9] 3 #[.slice (some ⟨w.heap.size + 1, 0, none⟩) 4 4, .string s]).run Tryd.prog ((w.alloc (.cells #[.int .u8 0, .int .u8 0, .int .u8 0, .int .u8 0, .int .u16 0] 36)).alloc (.cells #[.int .u8 0, .int .u8 0, .int .u8 0, .int .u8 0, .int .u16 0] 36)) = .ok (.int .i64 4) W1 ∧
    Blk w.heap.size 0 0 0 0 0 W1 ∧ Blk (w.heap.size + 1) (byt s 0) (byt s 1) (byt s 2) (byt s 3) 0 W1 ∧ Below w.heap.size w W1 := by
  have h1 : ((w.alloc (.cells #[.int .u8 0, .int .u8 0, .int .u8 0, .int .u8 0, .int .u16 0] 36)).alloc (.cells #[.int .u8 0, .int .u8 0, .int .u8 0, .int .u8 0, .int .u16 0] 36)).heap[w.heap.size]? = some (.cells #[.int .u8 0, .int .u8 0, .int .u8 0, .int .u8 0, .int .u16 0] 36 (0, 0)) := by
    rw [Below.heap_alloc _ _ _ (by simp), heap_alloc_new]
  have h2 := heap_alloc_new (w.alloc (.cells #[.int .u8 0, .int .u8 0, .int .u8 0, .int .u8 0, .int .u16 0] 36)) (.cells #[.int .u8 0, .int .u8 0, .int .u8 0, .int .u8 0, .int .u16 0] 36)
  rw [show (w.alloc (.cells #[.int .u8 0, .int .u8 0, .int .u8 0, .int .u8 0, .int .u16 0] 36)).heap.size = w.heap.size + 1 by simp] at h2
  have hb : Below w.heap.size w ((w.alloc (.cells #[.int .u8 0, .int .u8 0, .int .u8 0, .int .u8 0, .int .u16 0] 36)).alloc (.cells #[.int .u8 0, .int .u8 0, .int .u8 0, .int .u8 0, .int .u16 0] 36)) := ((Below.refl _ _).alloc (Nat.le_refl _) _).alloc (by simp) _
  generalize ((w.alloc (.cells #[.int .u8 0, .int .u8 0, .int .u8 0, .int .u8 0, .int .u16 0] 36)).alloc (.cells #[.int .u8 0, .int .u8 0, .int .u8 0, .int .u8 0, .int .u16 0] 36)) = W at *
  have hblk : Blk (w.heap.size + 1) 0 0 0 0 0 W := h2
  obtain ⟨⟨c0, c1, c2, c3, _⟩, cf⟩ := hblk.cells
  have hst := run_storeCells_cells (P := Tryd.prog) (w.heap.size + 1) 0 (ofCs s) 0 W (by
      intro j hj
      simp only [Nat.zero_add]
      match j, hj with
      | 0, _ => rw [c0]; rfl
      | 1, _ => rw [c1]; rfl
      | 2, _ => rw [c2]; rfl
      | 3, _ => rw [c3]; rfl) (fun j _ => cf _) (by
      intro v hv
      simp [ofCs] at hv
      rcases hv with rfl | rfl | rfl | rfl <;> rfl)
  have k1 := first_four s hs W
  refine ⟨W.setCells (w.heap.size + 1) 0 (ofCs s), ?_, ?_, ?_, ?_⟩
  · obtain ⟨i, hi, hz, hsz, _⟩ := info_parts (show (Tryd.prog.info? 5).map (fun i => (i.zero, i.size, i.bytes)) = some (some (.int .u8 0), 1, 1) by kernel_rfl)
    have hmin : Nat.min 6 4 = 4 := rfl
    simp only [Nat.zero_add] at hst
    simp [Builtin.copy_, run_underlying Tryd.underlying56, Builtin.lenOf, sizeOf, typeInfo, hi, hsz, hs, k1, hst, hmin]
    rfl
  · exact (((((heap_setCell_other _ ⟨w.heap.size + 1, 0 + 1 + 1 + 1, none⟩ _ _ (by simp)).trans (heap_setCell_other _ ⟨w.heap.size + 1, 0 + 1 + 1, none⟩ _ _ (by simp))).trans (heap_setCell_other _ ⟨w.heap.size + 1, 0 + 1, none⟩ _ _ (by simp))).trans (heap_setCell_other _ ⟨w.heap.size + 1, 0, none⟩ _ _ (by simp))).trans h1)
  · have e0 := heap_setCell_same W _ 0 _ _ (.int .u8 (byt s 0)) h2
    have e1 := heap_setCell_same _ _ 1 _ _ (.int .u8 (byt s 1)) e0
    have e2 := heap_setCell_same _ _ 2 _ _ (.int .u8 (byt s 2)) e1
    have e3 := heap_setCell_same _ _ 3 _ _ (.int .u8 (byt s 3)) e2
    exact e3
  · exact (((hb.setCell (by simp) _).setCell (by simp) _).setCell (by simp) _).setCell (by simp) _
end Go.Proofs.YtmflpjgedoopoaaDoor
