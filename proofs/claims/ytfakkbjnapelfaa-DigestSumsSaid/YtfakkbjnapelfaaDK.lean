/- Walk of digest.rounds. -/
import Derived.Test.YtfakkbjnapelfaaDJ
import Derived.Laws.IdiomCopy
namespace Go.Proofs.Ytfakkbjnapelfaa.Dg
open Go.RowKit

def bs0 (x : Nat) : Nat := ror x 2 ^^^ ror x 13 ^^^ ror x 22
def bs1 (x : Nat) : Nat := ror x 6 ^^^ ror x 11 ^^^ ror x 25
def chN (e f g : Nat) : Nat := (e &&& f) ^^^ ((4294967295 ^^^ e) &&& g)
def majN (a b c : Nat) : Nat := (a &&& b) ^^^ (a &&& c) ^^^ (b &&& c)
def t1N (e f g h k w : Nat) : Nat := ((((h + bs1 e) % 4294967296 + chN e f g) % 4294967296 + k) % 4294967296 + w) % 4294967296
def t2N (a b c : Nat) : Nat := (bs0 a + majN a b c) % 4294967296
/-- One round. -/
def stp (k w : Nat) : List Nat → List Nat
  | [a, b, c, d, e, f, g, h] => [(t1N e f g h k w + t2N a b c) % 4294967296, a, b, c, (d + t1N e f g h k w) % 4294967296, e, f, g]
  | l => l
def rds : List Nat → List Nat → List Nat → List Nat
  | k :: ks, w :: ws, l => rds ks ws (stp k w l)
  | _, _, l => l
def small (l : List Nat) : Prop := ∀ x ∈ l, x < 4294967296
theorem stp_ok (k w : Nat) (l : List Nat) (h : l.length = 8) (hs : small l) : (stp k w l).length = 8 ∧ small (stp k w l) := by
  match l, h with
  | [a, b, c, d, e, f, g, h], _ =>
    refine ⟨rfl, ?_⟩
    intro x hx
    have hm : ∀ y, y % 4294967296 < 4294967296 := fun y => Nat.mod_lt _ (by omega)
    simp only [stp, List.mem_cons, List.not_mem_nil, or_false] at hx
    rcases hx with rfl | rfl | rfl | rfl | rfl | rfl | rfl | rfl
    · exact hm _
    · exact hs _ (by simp)
    · exact hs _ (by simp)
    · exact hs _ (by simp)
    · exact hm _
    · exact hs _ (by simp)
    · exact hs _ (by simp)
    · exact hs _ (by simp)

theorem turned3 (x b0 b1 b2 : Nat) (hx : x < 4294967296) (h0 : 1 ≤ b0 ∧ b0 ≤ 31) (h1 : 1 ≤ b1 ∧ b1 ≤ 31) (h2 : 1 ≤ b2 ∧ b2 ≤ 31) (g : Nat) (w : World)
    (c0 : w.cell? ⟨g, 0, none⟩ = some (.int .i64 (b0 : Int))) (c1 : w.cell? ⟨g, 1, none⟩ = some (.int .i64 (b1 : Int))) (c2 : w.cell? ⟨g, 2, none⟩ = some (.int .i64 (b2 : Int))) :
    Calls Try.prog 59 #[.int .u32 (x : Int), .slice (some ⟨g, 0, none⟩) 3 3] w fun e w' => e = .returned (.int .u32 ((ror x b0 ^^^ ror x b1 ^^^ ror x b2 : Nat) : Int)) ∧ w = w' := by
  have := turned_any x hx [b0, b1, b2] (by intro b hb; simp at hb; rcases hb with rfl | rfl | rfl <;> assumption) (by simp) g 3 3 rfl w (fun k h => by
    match k, h with
    | 0, _ => exact c0
    | 1, _ => exact c1
    | 2, _ => exact c2)
  have e : xrs x [b0, b1, b2] 0 = ror x b0 ^^^ ror x b1 ^^^ ror x b2 := by unfold xrs xrs xrs xrs; rw [Nat.zero_xor]
  rw [e] at this
  exact this

theorem setCells_same (q : Nat) : ∀ (vs : List Value) (o : Nat) (w : World), (w.setCells q o vs).os = w.os ∧ (w.setCells q o vs).tape = w.tape ∧ (w.setCells q o vs).output = w.output ∧ (w.setCells q o vs).heap.size = w.heap.size ∧ ∀ x, x ≠ q → (w.setCells q o vs).heap[x]? = w.heap[x]?
  | [], _, _ => ⟨rfl, rfl, rfl, rfl, fun _ _ => rfl⟩
  | v :: r, o, w => by
    obtain ⟨h1, h2, h3, h4, h5⟩ := setCells_same q r (o + 1) (w.setCell ⟨q, o, none⟩ v)
    unfold World.setCells
    exact ⟨h1, h2, h3, by rw [h4]; simp, fun x hx => (h5 x hx).trans (heap_setCell_other w ⟨q, o, none⟩ x v hx)⟩
/-- 'copy(h[1:], h[:])' of eight words. -/
theorem rounds_copy (q a b c d e f g h : Nat) (w : World) (hU : UB q 82 [a, b, c, d, e, f, g, h] w) (ty : TypeId) :
    ∃ W1, (Builtin.copy_ #[54, 54] ty #[.slice (some ⟨q, 1, none⟩) 7 7, .slice (some ⟨q, 0, none⟩) 8 8]).run Try.prog w = .ok (.int .i64 7) W1 ∧ UB q 82 [a, a, b, c, d, e, f, g] W1 ∧
      (∀ x, x ≠ q → W1.heap[x]? = w.heap[x]?) ∧ W1.heap.size = w.heap.size ∧ W1.os = w.os ∧ W1.tape = w.tape ∧ W1.output = w.output := by
  obtain ⟨vs, hvs0⟩ : ∃ vs : List Value, vs = [.int .u32 (a : Int), .int .u32 (b : Int), .int .u32 (c : Int), .int .u32 (d : Int), .int .u32 (e : Int), .int .u32 (f : Int), .int .u32 (g : Int)] := ⟨_, rfl⟩
  have hlen : vs.length = 7 := by rw [hvs0]; rfl
  have hl := run_loadCells_list (P := Try.prog) (w := w) ⟨q, 0, none⟩ vs (fun j v hv => by
    have hadd : (⟨q, 0, none⟩ : Addr).add j = ⟨q, j, none⟩ := by unfold Addr.add; split <;> simp_all
    rw [hadd, cell_of_row w q j _ _ _ hU]
    rw [hvs0] at hv
    match j, hv with
    | 0, hv => exact hv
    | 1, hv => exact hv
    | 2, hv => exact hv
    | 3, hv => exact hv
    | 4, hv => exact hv
    | 5, hv => exact hv
    | 6, hv => exact hv)
  have hst := run_storeCells_cells (P := Try.prog) q 1 vs 0 w (by
      intro j hj
      have hj' : j < 7 := by omega
      have := hU.cell (1 + j) (by show 1 + j < 8; omega)
      rw [show 1 + 0 + j = 1 + j by omega, this]; rfl) (fun j _ => hU.frozen _) (by
      intro v hv
      rw [hvs0] at hv
      simp only [List.mem_cons, List.not_mem_nil, or_false] at hv
      rcases hv with rfl | rfl | rfl | rfl | rfl | rfl | rfl <;> rfl)
  obtain ⟨p1, p2, p3, p4, p5⟩ := setCells_same q vs 1 w
  refine ⟨w.setCells q 1 vs, ?_, ?_, p5, p4, p1, p2, p3⟩
  · obtain ⟨i, hi, hz, hsz, _⟩ := info_parts (show (Try.prog.info? 51).map (fun i => (i.zero, i.size, i.bytes)) = some (some (.int .u32 0), 1, 4) by kernel_rfl)
    have hmin : Nat.min 8 7 = 7 := rfl
    have hl' : (Builtin.firstCells 1 7 (.slice (some ⟨q, 0, none⟩) 8 8)).run Try.prog w = .ok vs.toArray w := by
      rw [hlen] at hl
      have e : Builtin.firstCells 1 7 (.slice (some ⟨q, 0, none⟩) 8 8) = loadCells ⟨q, 0, none⟩ 7 := by unfold Builtin.firstCells; rw [Nat.mul_one]
      rw [e]; exact hl
    generalize hvs : vs.toArray = va at hl'
    have hva : va.toList = vs := by rw [← hvs]
    simp [Builtin.copy_, run_underlying Try.underlying54, Builtin.lenOf, sizeOf, typeInfo, hi, hsz, hl', hva, hst, hmin]
    rfl
  · rw [hvs0]
    exact ((((((hU.put 1 a).put 2 b).put 3 c).put 4 d).put 5 e).put 6 f).put 7 g
end Go.Proofs.Ytfakkbjnapelfaa.Dg
