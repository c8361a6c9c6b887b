/- Contracts of pair.Cmp, pair.Norm at the example, awake, pair.Sum, and of the law's own 'is'.; Walk of pair.Sum, and of the law PairTurns.; A spin in memory: a block of nine cells.; Walks of slices.Index, slices.Contains of numbers, and of the closure in Next. -/
import Derived.Test.YtbnopmkfmggliaaL00
import Derived.Below
import Derived.Carry
import Derived.Laws.Rows
set_option linter.unusedVariables false
set_option linter.unusedSimpArgs false
namespace Go.Proofs.Ytbnopmkfmggliaa
open Go.RowKit
open Fl

def cmpI (a b : Int) : Int := if a < b then -1 else if b < a then 1 else 0

def orI (x y : Int) : Int := if x = 0 then y else x
def cmp2 (a b c d : Int) : Int := orI (cmpI a c) (cmpI b d)
theorem norm_example (w : World) :
    Calls Try.prog 33 #[cplx 3 4] w fun e w' => e = .returned (.float .f64 (fb 25)) ∧ w = w' := by
  have KI := Lib.hid (is_any 3 4 (by unfold In; omega) (by unfold In; omega))
  have h1 : ∀ w, (binOp .mul 60 (.float .f64 (fb 3)) (.float .f64 (fb 3))).run Try.prog w = .ok (.float .f64 (fb 9)) w := fun w => run_float_arith w .mul 60 .f64 _ _ _ (by decide +kernel)
  have h2 : ∀ w, (binOp .mul 60 (.float .f64 (fb 4)) (.float .f64 (fb 4))).run Try.prog w = .ok (.float .f64 (fb 16)) w := fun w => run_float_arith w .mul 60 .f64 _ _ _ (by decide +kernel)
  have h3 : ∀ w, (binOp .add 60 (.float .f64 (fb 9)) (.float .f64 (fb 16))).run Try.prog w = .ok (.float .f64 (fb 25)) w := fun w => run_float_arith w .add 60 .f64 _ _ _ (by decide +kernel)
  unfold cplx at *
  generalize fb 3 = a at *
  generalize fb 4 = b at *
  generalize fb 9 = c at *
  generalize fb 16 = d at *
  generalize fb 25 = f at *
  go_enter Try.func33, Try.ntmps33
  go_wp2_with ((go_at_call 25; ((with_reducible refine (KI.out _).mono ?_); rintro e w1 ⟨rfl, rfl⟩)))
  go_ret
  exact ⟨rfl, rfl⟩
theorem awake_any (w : World) : Calls Try.prog 27 #[] w fun e w' => e = .returned (.bool true) ∧ w = w' := by
  have KO := Lib.hid (of_any 3 4 (by unfold In; omega) (by unfold In; omega))
  have KT : Hid (∀ w, Calls Try.prog 23 #[cplx 3 4, .int .i64 1] w fun e w' => e = .returned (cplx (-4) 3) ∧ w = w') := Lib.hid (fun w => turn_any 3 4 1 (by omega) (by unfold In; omega) (by unfold In; omega) w)
  have KN := Lib.hid norm_example
  have h1 : FloatKind.f64.format.order (fb (-4)) 13839561654909534208 = some .eq := by decide +kernel
  have h2 : FloatKind.f64.format.order (fb 3) 4613937818241073152 = some .eq := by decide +kernel
  have h3 : FloatKind.f64.format.order (fb 25) 4627730092099895296 = some .eq := by decide +kernel
  unfold cplx at *
  generalize fb 3 = a at *
  generalize fb 4 = b at *
  generalize fb (-4) = c at *
  generalize fb 25 = f at *
  go_enter Try.func27, Try.ntmps27
  go_wp2_with (first
    | (go_at_call 32; ((with_reducible refine (KO.out _).mono ?_); rintro e w1 ⟨rfl, rfl⟩))
    | (go_at_call 23; ((with_reducible refine (KT.out _).mono ?_); rintro e w1 ⟨rfl, rfl⟩))
    | (go_at_call 33; ((with_reducible refine (KN.out _).mono ?_); rintro e w1 ⟨rfl, rfl⟩)))
  go_ret
  exact ⟨rfl, rfl⟩

end Go.Proofs.Ytbnopmkfmggliaa

namespace Go.Proofs.Ytbnopmkfmggliaa
open Go.RowKit
open Fl

def accA : List (Int × Int) → Int → Int
  | [], s => s
  | p :: l, s => accA l (holdI (s + p.1))
def accB : List (Int × Int) → Int → Int
  | [], s => s
  | p :: l, s => accB l (holdI (s + p.2))

theorem psum_any (l : List (Int × Int)) (hl : ∀ p ∈ l, In p.1 ∧ In p.2) (hn : l.length ≤ 50) (at0 : Option Addr) (n cap g : Nat) (hlen : n = l.length) (w : World)
    (hat : 0 < l.length → at0 = some ⟨g, 0, none⟩) (hc : ∀ k (h : k < l.length), w.cell? ⟨g, k, none⟩ = some (cplx l[k].1 l[k].2)) :
    Calls Try.prog 16 #[.slice at0 n cap] w fun e w' => e = .returned (cplx (accA l 0) (accB l 0)) ∧ w = w' := by
  subst hlen
  obtain ⟨A, hA⟩ : ∃ A, accA l 0 = A := ⟨_, rfl⟩
  obtain ⟨B, hB⟩ : ∃ B, accB l 0 = B := ⟨_, rfl⟩
  rw [hA, hB]
  have HA := Lib.hid hA
  have HB := Lib.hid hB
  have HC := Lib.hid hc
  have HAT := Lib.hid hat
  have HL := Lib.hid hl
  clear hA hB hc hat hl
  have z0 : fb 0 = 0 := rfl
  go_enter Try.func16, Try.ntmps16
  go_wp2
  go_loop [3, 8] (fun z i => ∃ (k : Nat) (s t : Int), k ≤ l.length ∧ i = .int .i64 k ∧ z = .complex .f64 (fb s) (fb t) ∧ In s ∧ In t ∧ Hid (accA (l.drop k) s = A) ∧ Hid (accB (l.drop k) t = B)) (fun _ i => l.length - (intOf i).toNat)
  case atStart => exact ⟨0, 0, 0, by omega, rfl, rfl, by unfold In; omega, by unfold In; omega, HA, HB⟩
  case round =>
    obtain ⟨k, s, t, hk, rfl, rfl, hs, ht, hA, hB⟩ := hrel
    by_cases hlt : k < l.length
    · have hcell := HC.out k hlt
      obtain rfl := HAT.out (by omega)
      have hin := HL.out l[k] (List.getElem_mem hlt)
      have KA := Lib.hid (add_any s t l[k].1 l[k].2 hs ht hin.1 hin.2)
      have hd := List.drop_eq_getElem_cons hlt
      have HA2 : Hid (accA (l.drop (k + 1)) (holdI (s + l[k].1)) = A) := Lib.hid (by have := hA.out; rw [hd] at this; exact this)
      have HB2 : Hid (accB (l.drop (k + 1)) (holdI (t + l[k].2)) = B) := Lib.hid (by have := hB.out; rw [hd] at this; exact this)
      have HIN := Lib.hid (And.intro (holdI_in (s + l[k].1)) (holdI_in (t + l[k].2)))
      clear hin hd hA hB hs ht
      unfold cplx at hcell KA
      generalize l[k].1 = x at *
      generalize l[k].2 = y at *
      generalize holdI (s + x) = s2 at *
      generalize holdI (t + y) = t2 at *
      go_wp2_with ((go_at_call 22; ((with_reducible refine (KA.out _).mono ?_); rintro e w1 ⟨rfl, rfl⟩)))
      go_round
      case rel => exact ⟨k + 1, s2, t2, by omega, by go_num, rfl, HIN.out.1, HIN.out.2, HA2, HB2⟩
      case measure => simp [intOf]; omega
    · have e : l.drop k = [] := List.drop_of_length_le (by omega)
      have eA := hA.out
      have eB := hB.out
      rw [e] at eA eB
      have EA := Lib.hid eA
      have EB := Lib.hid eB
      clear eA eB e hA hB
      go_wp2
      go_ret
      rw [← EA.out, ← EB.out]
      exact ⟨rfl, rfl⟩
end Go.Proofs.Ytbnopmkfmggliaa

namespace Go.Proofs.Ytbnopmkfmggliaa
open Go.RowKit
open Fl

theorem lt_of_heap {w : World} {g : Nat} {o : Obj} (h : w.heap[g]? = some o) : g < w.heap.size := (Array.getElem?_eq_some_iff.1 h).1
theorem alloc_below (w : World) (o : Obj) : Below w.heap.size w (w.alloc o) := (Below.refl _ _).alloc (Nat.le_refl _) _
theorem bt {w w1 : World} {o : Obj} (h : Below (w.alloc o).heap.size (w.alloc o) w1) : Below w.heap.size w w1 := (alloc_below w o).trans (h.mono (by simp))
theorem cell_one {w : World} {g : Nat} {v : Value} {T : TypeId} (h : w.heap[g]? = some (.cells #[v] T (0, 0))) : w.cell? ⟨g, 0, none⟩ = some v := (cell_of_row w g 0 _ _ _ h).trans rfl

/-- A spin's nine cells: what is in hand, and the weights; how many. -/
def spc (h u : Nat → Int) (n : Nat) : Array Value := #[cplx (h 0) (u 0), cplx (h 1) (u 1), cplx (h 2) (u 2), cplx (h 3) (u 3), cplx (h 4) (u 4), cplx (h 5) (u 5), cplx (h 6) (u 6), cplx (h 7) (u 7), .int .i64 (n : Int)]
def spV (h u : Nat → Int) (n : Nat) : Value := .agg (spc h u n)
def NS (w : World) (g : Nat) (h u : Nat → Int) (n : Nat) : Prop := w.heap[g]? = some (.cells (spc h u n) 28 (0, 0))
theorem NS.cells {w : World} {g : Nat} {h u : Nat → Int} {n : Nat} (H : NS w g h u n) : (w.cell? ⟨g, 0, none⟩ = some (.complex .f64 (fb (h 0)) (fb (u 0))) ∧ w.cell? ⟨g, 1, none⟩ = some (.complex .f64 (fb (h 1)) (fb (u 1))) ∧ w.cell? ⟨g, 2, none⟩ = some (.complex .f64 (fb (h 2)) (fb (u 2))) ∧ w.cell? ⟨g, 3, none⟩ = some (.complex .f64 (fb (h 3)) (fb (u 3))) ∧ w.cell? ⟨g, 4, none⟩ = some (.complex .f64 (fb (h 4)) (fb (u 4))) ∧ w.cell? ⟨g, 5, none⟩ = some (.complex .f64 (fb (h 5)) (fb (u 5))) ∧ w.cell? ⟨g, 6, none⟩ = some (.complex .f64 (fb (h 6)) (fb (u 6))) ∧ w.cell? ⟨g, 7, none⟩ = some (.complex .f64 (fb (h 7)) (fb (u 7)))) ∧ w.cell? ⟨g, 8, none⟩ = some (.int .i64 (n : Int)) := by
  have cc := fun (j : Nat) (v : Value) (hj : (spc h u n)[j]? = some v) => (cell_of_row w g j _ _ _ H).trans hj
  exact ⟨⟨cc 0 _ rfl, cc 1 _ rfl, cc 2 _ rfl, cc 3 _ rfl, cc 4 _ rfl, cc 5 _ rfl, cc 6 _ rfl, cc 7 _ rfl⟩, cc 8 _ rfl⟩
theorem NS.free {w : World} {g : Nat} {h u : Nat → Int} {n : Nat} (H : NS w g h u n) (i : Nat) : w.frozen? ⟨g, i, none⟩ = false := frozen_of_row w g i _ _ H
theorem NS.later {w w' : World} {g : Nat} {h u : Nat → Int} {n : Nat} (H : NS w g h u n) (hb : Below w.heap.size w w') : NS w' g h u n := (hb.block _ (lt_of_heap H)).trans H
theorem NS.lt {w : World} {g : Nat} {h u : Nat → Int} {n : Nat} (H : NS w g h u n) : g < w.heap.size := lt_of_heap H
theorem NS.new (w : World) (h u : Nat → Int) (n : Nat) : NS (w.alloc (.cells (spc h u n) 28)) w.heap.size h u n := heap_alloc_new w _
def upd (h : Nat → Int) (i : Nat) (a : Int) : Nat → Int := fun j => if j = i then a else h j
theorem upd_same (h : Nat → Int) (i : Nat) (a : Int) : upd h i a i = a := if_pos rfl
theorem upd_other (h : Nat → Int) {i j : Nat} (a : Int) (e : j ≠ i) : upd h i a j = h j := if_neg e
theorem NS.at {w : World} {g : Nat} {h u : Nat → Int} {n : Nat} (H : NS w g h u n) (i : Nat) (hi : i < 8) : w.cell? ⟨g, i, none⟩ = some (.complex .f64 (fb (h i)) (fb (u i))) := by
  obtain ⟨⟨c0, c1, c2, c3, c4, c5, c6, c7⟩, _⟩ := H.cells
  rcases (by omega : i = 0 ∨ i = 1 ∨ i = 2 ∨ i = 3 ∨ i = 4 ∨ i = 5 ∨ i = 6 ∨ i = 7) with rfl | rfl | rfl | rfl | rfl | rfl | rfl | rfl <;> assumption
theorem NS.set {w : World} {g : Nat} {h u : Nat → Int} {n : Nat} (H : NS w g h u n) (i : Nat) (hi : i < 8) (a b : Int) : NS (w.setCell ⟨g, i, none⟩ (.complex .f64 (fb a) (fb b))) g (upd h i a) (upd u i b) n := by
  have := heap_setCell_same w g i _ 28 (.complex .f64 (fb a) (fb b)) H
  refine this.trans ?_
  rcases (by omega : i = 0 ∨ i = 1 ∨ i = 2 ∨ i = 3 ∨ i = 4 ∨ i = 5 ∨ i = 6 ∨ i = 7) with rfl | rfl | rfl | rfl | rfl | rfl | rfl | rfl <;> rfl
theorem NS.other {w : World} {g q : Nat} {h u : Nat → Int} {n : Nat} (H : NS w g h u n) (hq : g ≠ q) (i : Nat) (v : Value) : NS (w.setCell ⟨q, i, none⟩ v) g h u n := (heap_setCell_other _ _ g _ hq).trans H
theorem NS.eq {w : World} {g : Nat} {h u h' u' : Nat → Int} {n : Nat} (H : NS w g h u n) (eh : ∀ i, i < 8 → h i = h' i) (eu : ∀ i, i < 8 → u i = u' i) : NS w g h' u' n := by
  unfold NS spc at *
  rw [eh 0 (by omega), eh 1 (by omega), eh 2 (by omega), eh 3 (by omega), eh 4 (by omega), eh 5 (by omega), eh 6 (by omega), eh 7 (by omega), eu 0 (by omega), eu 1 (by omega), eu 2 (by omega), eu 3 (by omega), eu 4 (by omega), eu 5 (by omega), eu 6 (by omega), eu 7 (by omega)] at H
  exact H
theorem spV.eq {h u h' u' : Nat → Int} {n : Nat} (eh : ∀ i, i < 8 → h i = h' i) (eu : ∀ i, i < 8 → u i = u' i) : spV h u n = spV h' u' n := by
  unfold spV spc
  rw [eh 0 (by omega), eh 1 (by omega), eh 2 (by omega), eh 3 (by omega), eh 4 (by omega), eh 5 (by omega), eh 6 (by omega), eh 7 (by omega), eu 0 (by omega), eu 1 (by omega), eu 2 (by omega), eu 3 (by omega), eu 4 (by omega), eu 5 (by omega), eu 6 (by omega), eu 7 (by omega)]
/-- Nine stores of a spin into a block of one. -/
theorem row_put {w : World} {g : Nat} {o0 o1 o2 o3 o4 o5 o6 o7 o8 : Value} (s : w.heap[g]? = some (.cells #[o0, o1, o2, o3, o4, o5, o6, o7, o8] 28 (0, 0))) (a0 a1 a2 a3 a4 a5 a6 a7 a8 : Value) : (((((((((w.setCell ⟨g, 0, none⟩ a0).setCell ⟨g, 1, none⟩ a1).setCell ⟨g, 2, none⟩ a2).setCell ⟨g, 3, none⟩ a3).setCell ⟨g, 4, none⟩ a4).setCell ⟨g, 5, none⟩ a5).setCell ⟨g, 6, none⟩ a6).setCell ⟨g, 7, none⟩ a7).setCell ⟨g, 8, none⟩ a8).heap[g]? = some (.cells #[a0, a1, a2, a3, a4, a5, a6, a7, a8] 28 (0, 0)) := by
  have s0 : _ = some (Obj.cells #[a0, o1, o2, o3, o4, o5, o6, o7, o8] 28 (0, 0)) := heap_setCell_same w g 0 _ 28 a0 s
  have s1 : _ = some (Obj.cells #[a0, a1, o2, o3, o4, o5, o6, o7, o8] 28 (0, 0)) := heap_setCell_same _ g 1 _ 28 a1 s0
  have s2 : _ = some (Obj.cells #[a0, a1, a2, o3, o4, o5, o6, o7, o8] 28 (0, 0)) := heap_setCell_same _ g 2 _ 28 a2 s1
  have s3 : _ = some (Obj.cells #[a0, a1, a2, a3, o4, o5, o6, o7, o8] 28 (0, 0)) := heap_setCell_same _ g 3 _ 28 a3 s2
  have s4 : _ = some (Obj.cells #[a0, a1, a2, a3, a4, o5, o6, o7, o8] 28 (0, 0)) := heap_setCell_same _ g 4 _ 28 a4 s3
  have s5 : _ = some (Obj.cells #[a0, a1, a2, a3, a4, a5, o6, o7, o8] 28 (0, 0)) := heap_setCell_same _ g 5 _ 28 a5 s4
  have s6 : _ = some (Obj.cells #[a0, a1, a2, a3, a4, a5, a6, o7, o8] 28 (0, 0)) := heap_setCell_same _ g 6 _ 28 a6 s5
  have s7 : _ = some (Obj.cells #[a0, a1, a2, a3, a4, a5, a6, a7, o8] 28 (0, 0)) := heap_setCell_same _ g 7 _ 28 a7 s6
  exact heap_setCell_same _ g 8 _ 28 a8 s7
theorem NS.put {w : World} {g : Nat} {h u : Nat → Int} {n : Nat} (H : NS w g h u n) (h' u' : Nat → Int) (n' : Nat) : NS ((((((((((w.setCell ⟨g, 0, none⟩ (.complex .f64 (fb (h' 0)) (fb (u' 0)))).setCell ⟨g, 1, none⟩ (.complex .f64 (fb (h' 1)) (fb (u' 1)))).setCell ⟨g, 2, none⟩ (.complex .f64 (fb (h' 2)) (fb (u' 2)))).setCell ⟨g, 3, none⟩ (.complex .f64 (fb (h' 3)) (fb (u' 3)))).setCell ⟨g, 4, none⟩ (.complex .f64 (fb (h' 4)) (fb (u' 4)))).setCell ⟨g, 5, none⟩ (.complex .f64 (fb (h' 5)) (fb (u' 5)))).setCell ⟨g, 6, none⟩ (.complex .f64 (fb (h' 6)) (fb (u' 6)))).setCell ⟨g, 7, none⟩ (.complex .f64 (fb (h' 7)) (fb (u' 7)))).setCell ⟨g, 8, none⟩ (.int .i64 (n' : Int)))) g h' u' n' := row_put H _ _ _ _ _ _ _ _ _
theorem put_other {w : World} {g q : Nat} (h' u' : Nat → Int) (n' : Nat) (hq : q ≠ g) : ((((((((((w.setCell ⟨g, 0, none⟩ (.complex .f64 (fb (h' 0)) (fb (u' 0)))).setCell ⟨g, 1, none⟩ (.complex .f64 (fb (h' 1)) (fb (u' 1)))).setCell ⟨g, 2, none⟩ (.complex .f64 (fb (h' 2)) (fb (u' 2)))).setCell ⟨g, 3, none⟩ (.complex .f64 (fb (h' 3)) (fb (u' 3)))).setCell ⟨g, 4, none⟩ (.complex .f64 (fb (h' 4)) (fb (u' 4)))).setCell ⟨g, 5, none⟩ (.complex .f64 (fb (h' 5)) (fb (u' 5)))).setCell ⟨g, 6, none⟩ (.complex .f64 (fb (h' 6)) (fb (u' 6)))).setCell ⟨g, 7, none⟩ (.complex .f64 (fb (h' 7)) (fb (u' 7)))).setCell ⟨g, 8, none⟩ (.int .i64 (n' : Int)))).heap[q]? = w.heap[q]? := by
  rw [heap_setCell_other _ ⟨g, 8, none⟩ q _ hq, heap_setCell_other _ ⟨g, 7, none⟩ q _ hq, heap_setCell_other _ ⟨g, 6, none⟩ q _ hq, heap_setCell_other _ ⟨g, 5, none⟩ q _ hq, heap_setCell_other _ ⟨g, 4, none⟩ q _ hq, heap_setCell_other _ ⟨g, 3, none⟩ q _ hq, heap_setCell_other _ ⟨g, 2, none⟩ q _ hq, heap_setCell_other _ ⟨g, 1, none⟩ q _ hq, heap_setCell_other _ ⟨g, 0, none⟩ q _ hq]
theorem put_below {B : Nat} {w w' : World} {g : Nat} (h' u' : Nat → Int) (n' : Nat) (hg : B ≤ g) (hb : Below B w w') : Below B w ((((((((((w'.setCell ⟨g, 0, none⟩ (.complex .f64 (fb (h' 0)) (fb (u' 0)))).setCell ⟨g, 1, none⟩ (.complex .f64 (fb (h' 1)) (fb (u' 1)))).setCell ⟨g, 2, none⟩ (.complex .f64 (fb (h' 2)) (fb (u' 2)))).setCell ⟨g, 3, none⟩ (.complex .f64 (fb (h' 3)) (fb (u' 3)))).setCell ⟨g, 4, none⟩ (.complex .f64 (fb (h' 4)) (fb (u' 4)))).setCell ⟨g, 5, none⟩ (.complex .f64 (fb (h' 5)) (fb (u' 5)))).setCell ⟨g, 6, none⟩ (.complex .f64 (fb (h' 6)) (fb (u' 6)))).setCell ⟨g, 7, none⟩ (.complex .f64 (fb (h' 7)) (fb (u' 7)))).setCell ⟨g, 8, none⟩ (.int .i64 (n' : Int)))) :=
  (((((((((hb.setCell hg _).setCell hg _).setCell hg _).setCell hg _).setCell hg _).setCell hg _).setCell hg _).setCell hg _).setCell hg _)
end Go.Proofs.Ytbnopmkfmggliaa

namespace Go.Proofs.Ytbnopmkfmggliaa
open Go.RowKit
open Fl

/-- A row of whole numbers. -/
def DIn (w : World) (b off : Nat) (l : List Int) : Prop := ∀ k (h : k < l.length), w.cell? ⟨b, off + k, none⟩ = some (.int .i64 l[k])
theorem DIn.later {w w' : World} {b off B : Nat} {l : List Int} (h : DIn w b off l) (hb : Below B w w') (hB : 0 < l.length → b < B) : DIn w' b off l := fun k hk => (hb.cell (p := ⟨b, off + k, none⟩) (hB (by omega))).trans (h k hk)

theorem index_any (l : List Int) (x : Int) (at0 : Option Addr) (cap b off : Nat) (hcap : l.length ≤ 1000000000) (w : World) (hat : 0 < l.length → at0 = some ⟨b, off, none⟩) (hc : DIn w b off l) :
    Calls Try.prog 28 #[.slice at0 l.length cap, .int .i64 x] w fun e w' => (∃ r : Int, e = .returned (.int .i64 r) ∧ Hid (0 ≤ r ↔ x ∈ l)) ∧ w = w' := by
  have HC := Lib.hid hc
  have HAT := Lib.hid hat
  clear hc hat
  go_enter Try.func28, Try.ntmps28
  go_wp2
  go_loop [5, 8] (fun _ i => ∃ k : Nat, k ≤ l.length ∧ i = .int .i64 k ∧ Hid (∀ j (h : j < l.length), j < k → l[j] ≠ x)) (fun _ i => l.length - (intOf i).toNat)
  case atStart => exact ⟨0, by omega, rfl, Lib.hid (fun j _ h => absurd h (by omega))⟩
  case round =>
    obtain ⟨k, hk, rfl, HN⟩ := hrel
    by_cases hlt : k < l.length
    · have hcell := HC.out k hlt
      obtain rfl := HAT.out (by omega)
      obtain ⟨y, hy⟩ : ∃ y, l[k] = y := ⟨_, rfl⟩
      have HY := Lib.hid hy
      rw [hy] at hcell
      clear hy
      by_cases e : x = y
      · subst e
        go_wp2
        go_ret
        refine ⟨⟨_, rfl, ?_⟩, rfl⟩
        exact Lib.hid ⟨fun _ => HY.out ▸ List.getElem_mem hlt, fun _ => by omega⟩
      · have e' : ((x : Int) == y) = false := by rw [beq_eq_false_iff_ne]; exact e
        have HE := Lib.hid e
        clear e
        go_wp2
        go_round
        case rel =>
          refine ⟨k + 1, by omega, by go_num, Lib.hid (fun j hj h => ?_)⟩
          by_cases ej : j = k
          · subst ej; rw [HY.out]; exact fun h => HE.out h.symm
          · exact HN.out j hj (by omega)
        case measure => simp [intOf]; omega
    · go_wp2
      go_ret
      refine ⟨⟨_, rfl, ?_⟩, rfl⟩
      refine Lib.hid ⟨fun h => absurd h (by omega), fun hm => ?_⟩
      obtain ⟨j, hj, he⟩ := List.getElem_of_mem hm
      exact absurd he (HN.out j hj (by omega))

theorem contains_any (l : List Int) (x : Int) (at0 : Option Addr) (cap b off : Nat) (hcap : l.length ≤ 1000000000) (w : World) (hat : 0 < l.length → at0 = some ⟨b, off, none⟩) (hc : DIn w b off l) :
    Calls Try.prog 21 #[.slice at0 l.length cap, .int .i64 x] w fun e w' => e = .returned (.bool (decide (x ∈ l))) ∧ w = w' := by
  have K := Lib.hid (index_any l x at0 cap b off hcap w hat hc)
  obtain ⟨d, hd⟩ : ∃ d, d = decide (x ∈ l) := ⟨_, rfl⟩
  rw [← hd]
  have HD := Lib.hid hd
  clear hd
  clear hc hat
  go_enter Try.func21, Try.ntmps21
  go_wp2_with ((go_at_call 28; ((with_reducible refine (K.out).mono ?_); rintro e w1 ⟨⟨r, rfl, hr'⟩, rfl⟩; have hr : decide (0 ≤ r) = d := (decide_eq_decide.2 hr'.out).trans HD.out.symm; clear hr')))
  go_ret
  exact ⟨rfl, rfl⟩

/-- Who is up: whose place isn't told. -/
def upL (l : List Int) (i : Nat) : Bool := !decide ((i : Int) ∈ l)
theorem clo_any (l : List Int) (x : Nat) (at0 : Option Addr) (cap b off g : Nat) (hcap : l.length ≤ 1000000000) (w : World) (hat : 0 < l.length → at0 = some ⟨b, off, none⟩) (hc : DIn w b off l)
    (hg : w.cell? ⟨g, 0, none⟩ = some (.slice at0 l.length cap)) :
    Calls Try.prog 20 #[.int .i64 (x : Int), .pointer (some ⟨g, 0, none⟩)] w fun e w' => e = .returned (.bool (upL l x)) ∧ w = w' := by
  have K := Lib.hid (contains_any l x at0 cap b off hcap w hat hc)
  unfold upL
  generalize decide ((x : Int) ∈ l) = d at *
  clear hc hat
  go_enter Try.func20, Try.ntmps20
  go_wp2_with ((go_at_call 21; ((with_reducible refine (K.out).mono ?_); rintro e w1 ⟨rfl, rfl⟩)))
  go_ret
  exact ⟨rfl, rfl⟩
end Go.Proofs.Ytbnopmkfmggliaa
