/- Walk of digest.Print. -/
import Derived.Test.YtfakkbjnapelfaaDV
namespace Go.Proofs.Ytfakkbjnapelfaa.Dg
open Go.RowKit

def zb16 : List UInt8 := List.replicate 16 0
theorem zb16_is : (#[.int .u8 0, .int .u8 0, .int .u8 0, .int .u8 0, .int .u8 0, .int .u8 0, .int .u8 0, .int .u8 0, .int .u8 0, .int .u8 0, .int .u8 0, .int .u8 0, .int .u8 0, .int .u8 0, .int .u8 0, .int .u8 0] : Array Value) = (W.bcells zb16).toArray := by kernel_rfl
theorem setCells_row (q : Nat) (T : TypeId) : ∀ (vs : List Value) (o : Nat) (cs : Array Value) (w : World), w.heap[q]? = some (.cells cs T (0, 0)) → ∃ cs2 : Array Value, (w.setCells q o vs).heap[q]? = some (.cells cs2 T (0, 0)) ∧ cs2.size = cs.size ∧ ∀ j, cs2[j]? = if o ≤ j ∧ j < o + vs.length ∧ j < cs.size then vs[j - o]? else cs[j]?
  | [], o, cs, w, h => ⟨cs, h, rfl, fun j => by rw [if_neg (by simp; omega)]⟩
  | v :: r, o, cs, w, h => by
    obtain ⟨cs2, h1, h2, h3⟩ := setCells_row q T r (o + 1) _ _ (heap_setCell_same w q o cs T v h)
    refine ⟨cs2, h1, by rw [h2]; simp, fun j => ?_⟩
    rw [h3 j]
    simp only [Array.size_setIfInBounds, List.length_cons]
    by_cases hj : j = o
    · subst hj
      rw [if_neg (by omega)]
      by_cases hs : j < cs.size
      · rw [if_pos (by omega), Array.getElem?_setIfInBounds_self_of_lt hs]; simp
      · rw [if_neg (by omega), Array.getElem?_eq_none (by simp; omega), Array.getElem?_eq_none (by omega)]
    · by_cases hin : o + 1 ≤ j ∧ j < o + 1 + r.length ∧ j < cs.size
      · rw [if_pos hin, if_pos (by omega), show j - o = (j - (o + 1)) + 1 by omega]; simp
      · rw [if_neg hin, if_neg (by omega), Array.getElem?_setIfInBounds_ne (by omega)]
/-- 'copy(p[:], all[:])'. -/
theorem print_copy (q g : Nat) (o : List UInt8) (ho : o.length = 32) (w : World) (hq : BB q 48 zb16 w) (hg : BB g 42 o w) :
    ∃ W1, (Builtin.copy_ #[46, 46] 3 #[.slice (some ⟨q, 0, none⟩) 16 16, .slice (some ⟨g, 0, none⟩) 32 32]).run Try.prog w = .ok (.int .i64 16) W1 ∧ BB q 48 (o.take 16) W1 ∧
      (∀ x, x ≠ q → W1.heap[x]? = w.heap[x]?) ∧ W1.heap.size = w.heap.size ∧ W1.os = w.os ∧ W1.tape = w.tape ∧ W1.output = w.output := by
  obtain ⟨vs, hvs⟩ : ∃ vs, W.bcells (o.take 16) = vs := ⟨_, rfl⟩
  have hlen : vs.length = 16 := by rw [← hvs]; simp [W.bcells, ho]
  have hl := run_loadCells_list (P := Try.prog) (w := w) ⟨g, 0, none⟩ vs (fun j v hv => by
    have hj : j < 16 := by rw [← hlen]; exact (List.getElem?_eq_some_iff.1 hv).1
    rw [show (⟨g, 0, none⟩ : Addr).add j = ⟨g, j, none⟩ by unfold Addr.add; split <;> simp_all, hg.cell j (by omega), ← hv, ← hvs]
    simp [W.bcells, hj, ho])
  have hst := run_storeCells_cells (P := Try.prog) q 0 vs 0 w (by
      intro j hj
      rw [show 0 + 0 + j = j by omega, hq.cell j (by show j < 16; omega)]; rfl) (fun j _ => hq.frozen _) (by
      intro v hv
      rw [← hvs] at hv
      unfold W.bcells at hv
      obtain ⟨x, _, rfl⟩ := List.mem_map.1 hv
      rfl)
  obtain ⟨p1, p2, p3, p4, p5⟩ := setCells_same q vs 0 w
  refine ⟨w.setCells q 0 vs, ?_, ?_, p5, p4, p1, p2, p3⟩
  · obtain ⟨i, hi, hz, hsz, _⟩ := info_parts W.Try.info5
    have hmin : Nat.min 32 16 = 16 := rfl
    have hl' : (Builtin.firstCells 1 16 (.slice (some ⟨g, 0, none⟩) 32 32)).run Try.prog w = .ok vs.toArray w := by
      rw [hlen] at hl
      have e : Builtin.firstCells 1 16 (.slice (some ⟨g, 0, none⟩) 32 32) = loadCells ⟨g, 0, none⟩ 16 := by unfold Builtin.firstCells; rw [Nat.mul_one]
      rw [e]; exact hl
    simp only [Nat.add_zero] at hst
    generalize hva' : vs.toArray = va at hl'
    have hva : va.toList = vs := by rw [← hva']
    simp [Builtin.copy_, run_underlying Try.underlying46, Builtin.lenOf, sizeOf, typeInfo, hi, hsz, hl', hva, hst, hmin]
    rfl
  · obtain ⟨cs2, h1, h2, h3⟩ := setCells_row q 48 vs 0 _ w hq
    have : cs2 = (W.bcells (o.take 16)).toArray := by
      apply Array.ext_getElem?
      intro j
      rw [h3 j, hlen]
      by_cases hj : j < 16
      · rw [if_pos ⟨by omega, by omega, by show j < 16; exact hj⟩, hvs]; simp
      · rw [if_neg (by omega), Array.getElem?_eq_none (by show 16 ≤ j; omega), hvs, Array.getElem?_eq_none (by simp; omega)]
    unfold BB
    rw [← this]
    exact h1
end Go.Proofs.Ytfakkbjnapelfaa.Dg
