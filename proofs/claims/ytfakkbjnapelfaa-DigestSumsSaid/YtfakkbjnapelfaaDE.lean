/- Blocks of words of 32 bits. -/
import Derived.Test.YtfakkbjnapelfaaDC
import Derived.Laws.Rows
namespace Go.Proofs.Ytfakkbjnapelfaa.Dg
open Go.RowKit

/-- The cells of words. -/
def u32c (l : List Nat) : Array Value := (l.map fun x : Nat => Value.int .u32 (x : Int)).toArray
theorem u32c_size (l : List Nat) : (u32c l).size = l.length := by simp [u32c]
theorem u32c_get (l : List Nat) (j : Nat) (h : j < l.length) : (u32c l)[j]? = some (.int .u32 (l[j] : Int)) := by
  simp [u32c, h]
theorem u32c_set (l : List Nat) (j x : Nat) : (u32c l).setIfInBounds j (.int .u32 (x : Int)) = u32c (l.set j x) := by
  apply Array.ext'
  simp [u32c, List.map_set]
theorem u32c_one (l : List Nat) : (u32c l).all (·.oneCell') = true := by
  rw [Array.all_eq_true_iff_forall_mem]
  intro v hv
  simp [u32c] at hv
  obtain ⟨x, _, rfl⟩ := hv
  rfl
/-- A block that holds words. -/
def UB (g : Nat) (T : TypeId) (l : List Nat) (w : World) : Prop := w.heap[g]? = some (.cells (u32c l) T (0, 0))
theorem lt_of_some {w : World} {g : Nat} {o : Obj} (h : w.heap[g]? = some o) : g < w.heap.size := by
  rcases Nat.lt_or_ge g w.heap.size with hlt | hge
  · exact hlt
  · rw [Array.getElem?_eq_none hge] at h; cases h
section
variable {g : Nat} {T : TypeId} {l : List Nat} {w w' : World}
theorem UB.lt (h : UB g T l w) : g < w.heap.size := lt_of_some h
theorem UB.later (h : UB g T l w) (hb : Below w.heap.size w w') : UB g T l w' := (hb.block _ h.lt).trans h
theorem UB.cell (h : UB g T l w) (j : Nat) (hj : j < l.length) : w.cell? ⟨g, j, none⟩ = some (.int .u32 (l[j] : Int)) := by
  rw [cell_of_row w g j _ _ _ h, u32c_get l j hj]
theorem UB.frozen (h : UB g T l w) (j : Nat) : w.frozen? ⟨g, j, none⟩ = false := frozen_of_row w g j _ _ h
theorem UB.put (h : UB g T l w) (j x : Nat) : UB g T (l.set j x) (w.setCell ⟨g, j, none⟩ (.int .u32 (x : Int))) := by
  have := heap_setCell_same w g j _ _ (.int .u32 (x : Int)) h
  rw [u32c_set] at this
  exact this
theorem UB.other (h : UB g T l w) {a : Addr} (v : Value) (hne : g ≠ a.block) : UB g T l (w.setCell a v) := (heap_setCell_other w a g v hne).trans h
theorem UB.load (h : UB g T l w) (ty : TypeId) {n : Nat} {e : TypeId} (hu : Try.prog.underlying ty = some (.array n e)) (hi : (Try.prog.info? ty).map (·.size) = some l.length) :
    (loadVar ty ⟨g, 0, none⟩).run Try.prog w = .ok (.agg (u32c l)) w :=
  run_loadVar_row w g T ty (u32c l) (0, 0) (.array n e) h hu rfl (by rw [hi, u32c_size])
theorem UB.store (h : UB g T l w) (ty : TypeId) (l2 : List Nat) (hi : (Try.prog.info? ty).map (·.size) = some l2.length) (hs : l.length = l2.length) :
    (storeVar ty ⟨g, 0, none⟩ (.agg (u32c l2))).run Try.prog w = .ok () (w.setRow g (u32c l2)) :=
  run_storeVar_row w g T ty (u32c l) (u32c l2) h (by rw [hi, u32c_size]) (by rw [u32c_size, u32c_size, hs]) (u32c_one l2)
theorem UB.row (h : UB g T l w) (l2 : List Nat) : UB g T l2 (w.setRow g (u32c l2)) := setRow_heap w g _ _ T _ h
theorem UB.rowOther (h : UB g T l w) {g2 : Nat} (l2 : List Nat) (hne : g ≠ g2) : UB g T l (w.setRow g2 (u32c l2)) := by
  unfold UB
  rw [setRow_other w g2 g _ hne]; exact h
end
/-- Loads and stores of whole blocks, in a walk. -/
theorem wpList_load_ub {w : World} {ops : Array Oper} {rest : List Oper} {o : Oper} {a : Act} {Q : Exit → Act → World → Prop} (hgd : o.guard = none) (ty : TypeId) (x : Operand) (ho : o.op = .load ty x)
    {g : Nat} {T : TypeId} {l : List Nat} (h : UB g T l w) {n : Nat} {e : TypeId} (hu : Try.prog.underlying ty = some (.array n e)) (hi : (Try.prog.info? ty).map (·.size) = some l.length) (hx : a.eval x = .pointer (some ⟨g, 0, none⟩))
    (hk : wpList Try.prog ops Q rest (a.put o.dst (.agg (u32c l))) w) : wpList Try.prog ops Q (o :: rest) a w :=
  wpList_load_row hgd ty x ho g hx T (u32c l) (0, 0) (.array n e) h hu rfl (by rw [hi, u32c_size]) hk
theorem wpList_store_ub {w : World} {ops : Array Oper} {rest : List Oper} {o : Oper} {a : Act} {Q : Exit → Act → World → Prop} (hgd : o.guard = none) (ty : TypeId) (x y : Operand) (ho : o.op = .store ty x y)
    {g : Nat} {T : TypeId} {l l2 : List Nat} (h : UB g T l w) (hi : (Try.prog.info? ty).map (·.size) = some l2.length) (hs : l.length = l2.length) (hx : a.eval x = .pointer (some ⟨g, 0, none⟩)) (hy : a.eval y = .agg (u32c l2))
    (hk : wpList Try.prog ops Q rest (a.put o.dst undef) (w.setRow g (u32c l2))) : wpList Try.prog ops Q (o :: rest) a w :=
  wpList_plain hgd fun _ hK => wp_store_row ty x y ho g (u32c l2) hx hy T (u32c l) h (by rw [hi, u32c_size]) (by rw [u32c_size, u32c_size, hs]) (u32c_one l2) (hK _ _ hk)
theorem below_row {B : Nat} {a w : World} (h : Below B a w) {g : Nat} (hg : B ≤ g) (cs : Array Value) : Below B a (w.setRow g cs) :=
  ⟨h.os, h.tape, h.output, by rw [size_setRow]; exact h.size, fun k hk => by rw [setRow_other w g k cs (by omega)]; exact h.block k hk⟩
theorem ub_new (w : World) (l : List Nat) (T : TypeId) : UB w.heap.size T l (w.alloc (.cells (u32c l) T)) := heap_alloc_new w _
theorem root_any (p d : Nat) (hp : p < 1000) (hd : d = 2 ∨ d = 3) (w : World) :
    Calls Try.prog 49 #[.int .u64 (p : Int), .int .i64 (d : Int)] w fun e w' => e = .returned (.int .u32 (root p d : Nat)) ∧ w = w' := by
  refine root_core p d (p * 2 ^ (32 * d - 64)) (rootL (33 + 1) (p * 2 ^ (32 * d - 64)) d 0) (d : Int) rfl ?_ (Lib.hid rfl) w
  rcases hd with rfl | rfl
  · refine Or.inl ⟨rfl, ?_⟩
    rw [IntWalk.u64_in _ ⟨by omega, by omega⟩]; simp
  · refine Or.inr ⟨rfl, ?_⟩
    rw [IntWalk.u64_in _ ⟨by omega, by omega⟩]; simp
end Go.Proofs.Ytfakkbjnapelfaa.Dg
