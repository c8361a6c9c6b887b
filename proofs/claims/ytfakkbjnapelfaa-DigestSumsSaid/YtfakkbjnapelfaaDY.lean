/- The document's sum: what its walk holds of the world; plain facts. -/
import Derived.Test.YtfakkbjnapelfaaDV
import Derived.Test.YtfakkbjnapelfaaDS
import Derived.Laws.MakeOwn
namespace Go.Proofs.Ytfakkbjnapelfaa.Dg
open Go.RowKit

theorem bdn (w : World) (n : Nat) : Below w.heap.size w (w.drewN n) := ⟨rfl, rfl, rfl, Nat.le_refl _, fun _ _ => rfl⟩
theorem bd1 (w : World) : Below w.heap.size w w.drew := ⟨rfl, rfl, rfl, Nat.le_refl _, fun _ _ => rfl⟩
/-- The constants, the words that are summed. -/
def T2 (w : World) (gk gh : Nat) (h : List Nat) (wr : World) : Prop := UB gk 51 KS wr ∧ UB gh 51 h wr ∧ w.heap.size ≤ gk ∧ gk < gh ∧ Below w.heap.size w wr
/-- .. and a block's words. -/
def T3 (w : World) (gk gh gw : Nat) (h W : List Nat) (wr : World) : Prop := T2 w gk gh h wr ∧ UB gw 51 W wr ∧ gh < gw
/-- .. and a round's. -/
def T4 (w : World) (gk gh gw gv : Nat) (h W V : List Nat) (wr : World) : Prop := T3 w gk gh gw h W wr ∧ UB gv 51 V wr ∧ gw < gv
section
variable {w wr w1 : World} {gk gh gw gv : Nat} {h W V : List Nat}
theorem T2.later (t : T2 w gk gh h wr) (hb : Below wr.heap.size wr w1) : T2 w gk gh h w1 := ⟨t.1.later hb, t.2.1.later hb, t.2.2.1, t.2.2.2.1, t.2.2.2.2.trans (hb.mono t.2.2.2.2.size)⟩
theorem T3.later (t : T3 w gk gh gw h W wr) (hb : Below wr.heap.size wr w1) : T3 w gk gh gw h W w1 := ⟨t.1.later hb, t.2.1.later hb, t.2.2⟩
theorem T4.later (t : T4 w gk gh gw gv h W V wr) (hb : Below wr.heap.size wr w1) : T4 w gk gh gw gv h W V w1 := ⟨t.1.later hb, t.2.1.later hb, t.2.2⟩
theorem T2.put (t : T2 w gk gh h wr) (j x : Nat) : T2 w gk gh (h.set j x) (wr.setCell ⟨gh, j, none⟩ (.int .u32 (x : Int))) :=
  ⟨t.1.other _ (by have := t.2.2.2.1; show gk ≠ gh; omega), t.2.1.put j x, t.2.2.1, t.2.2.2.1, t.2.2.2.2.setCell (by have := t.2.2.1; have := t.2.2.2.1; show w.heap.size ≤ gh; omega) _⟩
theorem T2.other (t : T2 w gk gh h wr) (g j x : Nat) (hg : gh < g) : T2 w gk gh h (wr.setCell ⟨g, j, none⟩ (.int .u32 (x : Int))) :=
  ⟨t.1.other _ (by have := t.2.2.2.1; show gk ≠ g; omega), t.2.1.other _ (by show gh ≠ g; omega), t.2.2.1, t.2.2.2.1, t.2.2.2.2.setCell (by have := t.2.2.1; have := t.2.2.2.1; show w.heap.size ≤ g; omega) _⟩
theorem T3.put (t : T3 w gk gh gw h W wr) (j x : Nat) : T3 w gk gh gw h (W.set j x) (wr.setCell ⟨gw, j, none⟩ (.int .u32 (x : Int))) :=
  ⟨t.1.other gw j x t.2.2, t.2.1.put j x, t.2.2⟩
theorem T4.put (t : T4 w gk gh gw gv h W V wr) (j x : Nat) : T4 w gk gh gw gv (h.set j x) W V (wr.setCell ⟨gh, j, none⟩ (.int .u32 (x : Int))) :=
  ⟨⟨t.1.1.put j x, t.1.2.1.other _ (by have := t.1.2.2; show gw ≠ gh; omega), t.1.2.2⟩, t.2.1.other _ (by have := t.1.2.2; have := t.2.2; show gv ≠ gh; omega), t.2.2⟩
theorem T4.fresh {A : Array Value} (t : T3 w gk gh gw h W wr) (V2 : List Nat) (hA : A = u32c V2) : T4 w gk gh gw wr.heap.size h W V2 (wr.alloc (.cells A 51)) := by
  subst hA
  exact ⟨t.later ((Below.refl _ _).alloc (Nat.le_refl _) _), ub_new wr V2 51, t.2.1.lt⟩
theorem T3.fresh {A : Array Value} (t : T2 w gk gh h wr) (W2 : List Nat) (hA : A = u32c W2) : T3 w gk gh wr.heap.size h W2 (wr.alloc (.cells A 51)) := by
  subst hA
  exact ⟨t.later ((Below.refl _ _).alloc (Nat.le_refl _) _), ub_new wr W2 51, t.2.1.lt⟩
theorem T2.fresh {A : Array Value} {wk : World} (hk : UB gk 51 KS wk) (hb : Below w.heap.size w wk) (hg : w.heap.size ≤ gk) (h2 : List Nat) (hA : A = u32c h2) : T2 w gk wk.heap.size h2 (wk.alloc (.cells A 51)) := by
  subst hA
  exact ⟨hk.later ((Below.refl _ _).alloc (Nat.le_refl _) _), ub_new wk h2 51, hg, hk.lt, hb.alloc hb.size _⟩
end

/-- The number of the first j bytes from a place on. -/
def partT (t : ByteArray) (o j : Nat) : Nat := W.gt (t.extract o (o + j)).data.toList
theorem ext_list (s : ByteArray) (a b : Nat) : (s.extract a b).data.toList = (s.data.toList.drop a).take (b - a) := by
  simp [ByteArray.data_extract, List.extract_eq_take_drop]
theorem partT_0 (t : ByteArray) (o : Nat) : partT t o 0 = 0 := by
  unfold partT; rw [ext_list]; simp [W.gt]
theorem partT_lt (t : ByteArray) (o j : Nat) : partT t o j < 256 ^ j := by
  have h := W.gt_lt (t.extract o (o + j)).data.toList
  have h2 : (t.extract o (o + j)).data.toList.length ≤ j := by rw [ext_list]; simp; omega
  exact Nat.lt_of_lt_of_le h (Nat.pow_le_pow_right (by omega) h2)
theorem partT_succ (t : ByteArray) (o j : Nat) (h : o + j < t.size) : partT t o (j + 1) = partT t o j * 256 + (t[o + j]'h).toNat := by
  unfold partT
  have hl : o + j < t.data.toList.length := by simpa using h
  have hd : j < (t.data.toList.drop o).length := by simp at hl ⊢; omega
  rw [ext_list, ext_list, show o + (j + 1) - o = j + 1 by omega, show o + j - o = j by omega, List.take_succ_eq_append_getElem hd, W.gt_snoc]
  congr 2
  simp
  rfl
theorem partT_small (t : ByteArray) (o j : Nat) (hj : j < 4) : partT t o j < 16777216 ∧ partT t o (j + 1) < 4294967296 := by
  have h1 := partT_lt t o j
  have h2 := partT_lt t o (j + 1)
  have p1 : (256 : Nat) ^ j ≤ 256 ^ 3 := Nat.pow_le_pow_right (by omega) (by omega)
  have p2 : (256 : Nat) ^ (j + 1) ≤ 256 ^ 4 := Nat.pow_le_pow_right (by omega) (by omega)
  have e1 : (256 : Nat) ^ 3 = 16777216 := rfl
  have e2 : (256 : Nat) ^ 4 = 4294967296 := rfl
  omega
theorem partT_word (t : ByteArray) (b i : Nat) (hi : i < 16) : partT t (64 * b + 4 * i) 4 = word4 (t.extract (64 * b) (64 * b + 64)) i := by
  unfold partT word4
  congr 1
  rw [ext_list, ext_list, ext_list, List.drop_take, List.drop_drop, List.take_take]
  congr 1
  omega
theorem schA_zero (s : ByteArray) (i : Nat) (hi : i < 64) : (schA s i).set i 0 = schA s i := by
  unfold schA
  rw [List.set_append_right _ _ (by rw [sch_len]; omega), sch_len, Nat.sub_self, show 64 - i = (64 - (i + 1)) + 1 by omega, List.replicate_succ, List.set_cons_zero]
theorem set_len {α : Type} (l : List α) (i : Nat) (x : α) : (l.set i x).length = l.length := by simp
/-- Fresh words, fresh bytes. -/
theorem make_words (w : World) : (Instr.makeSlice 54 (.int .i64 64) (.int .i64 64)).run Try.prog w = .ok (.slice (some ⟨w.heap.size, 0, none⟩) 64 64) (w.alloc (.cells (u32c (List.replicate 64 0)) 51)) := by kernel_rfl
theorem make_bytes (w : World) : (Instr.makeSlice 46 (.int .i64 32) (.int .i64 32)).run Try.prog w = .ok (.slice (some ⟨w.heap.size, 0, none⟩) 32 32) (w.alloc (.cells (W.bcells zb32).toArray 5)) := by kernel_rfl
end Go.Proofs.Ytfakkbjnapelfaa.Dg
