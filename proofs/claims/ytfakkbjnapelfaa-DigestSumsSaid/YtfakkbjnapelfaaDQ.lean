/- Bytes of a sum, copied word by word. -/
import Derived.Test.YtfakkbjnapelfaaDN
namespace Go.Proofs.Ytfakkbjnapelfaa.Dg
open Go.RowKit

/-- A block that holds bytes. -/
def BB (g : Nat) (T : TypeId) (l : List UInt8) (w : World) : Prop := w.heap[g]? = some (.cells (W.bcells l).toArray T (0, 0))
section
variable {g : Nat} {T : TypeId} {l : List UInt8} {w w' : World}
theorem BB.lt (h : BB g T l w) : g < w.heap.size := lt_of_some h
theorem BB.later (h : BB g T l w) (hb : Below w.heap.size w w') : BB g T l w' := (hb.block _ h.lt).trans h
theorem BB.cell (h : BB g T l w) (j : Nat) (hj : j < l.length) : w.cell? ⟨g, j, none⟩ = some (.int .u8 (l[j].toNat : Int)) := by
  rw [cell_of_row w g j _ _ _ h]; simp [W.bcells, hj]
theorem BB.frozen (h : BB g T l w) (j : Nat) : w.frozen? ⟨g, j, none⟩ = false := frozen_of_row w g j _ _ h
end
theorem bb_new (w : World) (l : List UInt8) (T : TypeId) : BB w.heap.size T l (w.alloc (.cells (W.bcells l).toArray T)) := heap_alloc_new w _
def zb32 : List UInt8 := List.replicate 32 0
set_option maxRecDepth 100000 in
theorem zb32_is : (#[.int .u8 0, .int .u8 0, .int .u8 0, .int .u8 0, .int .u8 0, .int .u8 0, .int .u8 0, .int .u8 0, .int .u8 0, .int .u8 0, .int .u8 0, .int .u8 0, .int .u8 0, .int .u8 0, .int .u8 0, .int .u8 0, .int .u8 0, .int .u8 0, .int .u8 0, .int .u8 0, .int .u8 0, .int .u8 0, .int .u8 0, .int .u8 0, .int .u8 0, .int .u8 0, .int .u8 0, .int .u8 0, .int .u8 0, .int .u8 0, .int .u8 0, .int .u8 0] : Array Value) = (W.bcells zb32).toArray := by kernel_rfl

theorem BB.put {g : Nat} {T : TypeId} {l : List UInt8} {w : World} (h : BB g T l w) (j : Nat) (x : UInt8) : BB g T (l.set j x) (w.setCell ⟨g, j, none⟩ (.int .u8 (x.toNat : Int))) := by
  have := heap_setCell_same w g j _ _ (.int .u8 (x.toNat : Int)) h
  rw [show (W.bcells l).toArray.setIfInBounds j (.int .u8 (x.toNat : Int)) = (W.bcells (l.set j x)).toArray by apply Array.ext'; simp [W.bcells, List.map_set]] at this
  exact this
/-- What holds while the sum's bytes are laid. -/
def OW (w : World) (q : Nat) (o : List UInt8) (wr : World) : Prop := BB w.heap.size 42 zb32 wr ∧ BB q 42 o wr ∧ w.heap.size < q ∧ Below w.heap.size w wr
section
variable {w wr w1 : World} {q : Nat} {o : List UInt8}
theorem OW.later (hs : OW w q o wr) (hb : Below wr.heap.size wr w1) : OW w q o w1 := ⟨hs.1.later hb, hs.2.1.later hb, hs.2.2.1, hs.2.2.2.trans (hb.mono hs.2.2.2.size)⟩
theorem OW.drew (hs : OW w q o wr) : OW w q o wr.drew := ⟨hs.1, hs.2.1, hs.2.2.1, ⟨hs.2.2.2.os, hs.2.2.2.tape, hs.2.2.2.output, hs.2.2.2.size, hs.2.2.2.block⟩⟩
theorem OW.undrew (hs : OW w q o wr.drew) : OW w q o wr := ⟨hs.1, hs.2.1, hs.2.2.1, ⟨hs.2.2.2.os, hs.2.2.2.tape, hs.2.2.2.output, hs.2.2.2.size, hs.2.2.2.block⟩⟩
theorem OW.put (hs : OW w q o wr) (j : Nat) (x : UInt8) : OW w q (o.set j x) (wr.setCell ⟨q, j, none⟩ (.int .u8 (x.toNat : Int))) :=
  ⟨(heap_setCell_other wr ⟨q, j, none⟩ w.heap.size _ (by have := hs.2.2.1; show w.heap.size ≠ q; omega)).trans hs.1, hs.2.1.put j x, hs.2.2.1, hs.2.2.2.setCell (by have := hs.2.2.1; show w.heap.size ≤ q; omega) _⟩
end
theorem outL_0 (h : List Nat) : outL h 0 = zb32 := rfl
/-- Four bytes more. -/
theorem outL_step (h : List Nat) (hl : h.length = 8) (j : Nat) (hj : j < 8) (c0 c1 c2 c3 : UInt8) (hc : W.be h[j] 4 = [c0, c1, c2, c3]) :
    ((((outL h j).set (4 * j) c0).set (4 * j + 1) c1).set (4 * j + 1 + 1) c2).set (4 * j + 1 + 1 + 1) c3 = outL h (j + 1) ∧ ((((outL h (j + 1)).set (4 * j) c0).set (4 * j + 1) c1).set (4 * j + 1 + 1) c2).set (4 * j + 1 + 1 + 1) c3 = outL h (j + 1) := by
  have h1 : bytes4 (h.take (j + 1)) = bytes4 (h.take j) ++ [c0, c1, c2, c3] := by
    rw [List.take_succ_eq_append_getElem (by omega)]
    unfold bytes4
    simp only [List.map_append, List.map_cons, List.map_nil, List.flatten_append, List.flatten_cons, List.flatten_nil, List.append_nil, hc]
  have hL : (bytes4 (h.take j)).length = 4 * j := by rw [bytes4_len, List.length_take]; omega
  have gen : ∀ (b r : List UInt8) (y0 y1 y2 y3 : UInt8), b.length = 4 * j → ((((b ++ ([y0, y1, y2, y3] ++ r)).set (4 * j) c0).set (4 * j + 1) c1).set (4 * j + 1 + 1) c2).set (4 * j + 1 + 1 + 1) c3 = b ++ ([c0, c1, c2, c3] ++ r) := by
    intro b r y0 y1 y2 y3 hb
    rw [List.set_append_right _ _ (by omega), List.set_append_right _ _ (by omega), List.set_append_right _ _ (by omega), List.set_append_right _ _ (by omega)]
    rw [show 4 * j - b.length = 0 by omega, show 4 * j + 1 - b.length = 1 by omega, show 4 * j + 1 + 1 - b.length = 2 by omega, show 4 * j + 1 + 1 + 1 - b.length = 3 by omega]
    rfl
  have e1 : outL h j = bytes4 (h.take j) ++ ([0, 0, 0, 0] ++ List.replicate (32 - 4 * (j + 1)) 0) := by
    unfold outL
    rw [show 32 - 4 * j = 4 + (32 - 4 * (j + 1)) by omega, ← List.replicate_append_replicate]; rfl
  have e2 : outL h (j + 1) = bytes4 (h.take j) ++ ([c0, c1, c2, c3] ++ List.replicate (32 - 4 * (j + 1)) 0) := by
    unfold outL
    rw [h1, List.append_assoc]
  refine ⟨?_, ?_⟩
  · rw [e1, e2]; exact gen _ _ _ _ _ _ hL
  · rw [e2]; exact gen _ _ _ _ _ _ hL
theorem first_four (s : ByteArray) (c0 c1 c2 c3 : UInt8) (hs : s = ⟨#[c0, c1, c2, c3]⟩) (w : World) : (Builtin.firstCells 1 4 (.string s)).run Try.prog w = .ok (W.bcells [c0, c1, c2, c3]).toArray w := by
  subst hs
  simp [Builtin.firstCells, W.bcells, ByteArray.data_extract]
/-- 'copy(s[4*j:], ..)' of four bytes. -/
theorem out_copy (h : List Nat) (hl : h.length = 8) (j : Nat) (hj : j < 8) (w : World) (q : Nat) : ∃ F : World → World, ∀ wz, (OW w q (outL h j) wz ∨ OW w q (outL h (j + 1)) wz) →
    (Builtin.copy_ #[46, 9] 3 #[.slice (some ⟨q, 4 * j, none⟩) (32 - 4 * j) (32 - 4 * j), .string (W.str (W.be h[j] 4))]).run Try.prog wz = .ok (.int .i64 4) (F wz) ∧ OW w q (outL h (j + 1)) (F wz) := by
  obtain ⟨c0, c1, c2, c3, hc⟩ : ∃ c0 c1 c2 c3, W.be h[j] 4 = [c0, c1, c2, c3] := ⟨_, _, _, _, rfl⟩
  obtain ⟨st1, st2⟩ := outL_step h hl j hj c0 c1 c2 c3 hc
  refine ⟨fun wz => wz.setCells q (4 * j) (W.bcells [c0, c1, c2, c3]), ?_⟩
  intro wz hz
  obtain ⟨o, ho, hset, hlen⟩ : ∃ o, OW w q o wz ∧ (((o.set (4 * j) c0).set (4 * j + 1) c1).set (4 * j + 1 + 1) c2).set (4 * j + 1 + 1 + 1) c3 = outL h (j + 1) ∧ o.length = 32 := by
    rcases hz with hz | hz
    · exact ⟨_, hz, st1, outL_len h hl j (by omega)⟩
    · exact ⟨_, hz, st2, outL_len h hl (j + 1) (by omega)⟩
  have hB := ho.2.1
  have hst := run_storeCells_cells (P := Try.prog) q (4 * j) (W.bcells [c0, c1, c2, c3]) 0 wz (by
      intro i hi
      have hi4 : i < 4 := hi
      rw [hB.cell (4 * j + 0 + i) (by omega)]; rfl) (fun i _ => hB.frozen _) (by
      intro v hv
      simp [W.bcells] at hv
      rcases hv with rfl | rfl | rfl | rfl <;> rfl)
  have k1 := first_four (W.str (W.be h[j] 4)) c0 c1 c2 c3 (by rw [hc]; rfl) wz
  have hsz4 : (W.str (W.be h[j] 4)).size = 4 := by rw [W.size_str, hc]; rfl
  refine ⟨?_, ?_⟩
  · obtain ⟨i, hi, hz0, hsz, _⟩ := info_parts (show (Try.prog.info? 5).map (fun i => (i.zero, i.size, i.bytes)) = some (some (.int .u8 0), 1, 1) by kernel_rfl)
    have hmin : Nat.min 4 (32 - 4 * j) = 4 := Nat.min_eq_left (by omega)
    generalize W.str (W.be h[j] 4) = s at *
    generalize W.bcells [c0, c1, c2, c3] = vs at *
    simp only [Nat.add_zero] at hst
    simp [Builtin.copy_, run_underlying Try.underlying46, Builtin.lenOf, sizeOf, typeInfo, hi, hsz, hsz4, k1, hst, hmin]
    rfl
  · have := (((ho.put (4 * j) c0).put (4 * j + 1) c1).put (4 * j + 1 + 1) c2).put (4 * j + 1 + 1 + 1) c3
    rw [hset] at this
    exact this
end Go.Proofs.Ytfakkbjnapelfaa.Dg
