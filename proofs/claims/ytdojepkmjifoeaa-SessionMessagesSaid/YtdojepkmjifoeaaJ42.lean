/- Sessions: blocks of nine cells, stored into; New.; Sessions: Done. -/
import Derived.Test.YtdojepkmjifoeaaJ41
set_option linter.unusedVariables false
set_option linter.unusedSimpArgs false
namespace Go.Proofs.Ytdojepkmjifoeaa
open Go.RowKit

theorem N9.set0 {w : World} {g : Nat} {o0 o1 o2 o3 o4 o5 o6 o7 o8 : Value} (h : N9 w g o0 o1 o2 o3 o4 o5 o6 o7 o8) (u : Value) : N9 (w.setCell ⟨g, 0, none⟩ u) g u o1 o2 o3 o4 o5 o6 o7 o8 := heap_setCell_same w g 0 _ 39 u h
theorem N9.set1 {w : World} {g : Nat} {o0 o1 o2 o3 o4 o5 o6 o7 o8 : Value} (h : N9 w g o0 o1 o2 o3 o4 o5 o6 o7 o8) (u : Value) : N9 (w.setCell ⟨g, 1, none⟩ u) g o0 u o2 o3 o4 o5 o6 o7 o8 := heap_setCell_same w g 1 _ 39 u h
theorem N9.set2 {w : World} {g : Nat} {o0 o1 o2 o3 o4 o5 o6 o7 o8 : Value} (h : N9 w g o0 o1 o2 o3 o4 o5 o6 o7 o8) (u : Value) : N9 (w.setCell ⟨g, 2, none⟩ u) g o0 o1 u o3 o4 o5 o6 o7 o8 := heap_setCell_same w g 2 _ 39 u h
theorem N9.set3 {w : World} {g : Nat} {o0 o1 o2 o3 o4 o5 o6 o7 o8 : Value} (h : N9 w g o0 o1 o2 o3 o4 o5 o6 o7 o8) (u : Value) : N9 (w.setCell ⟨g, 3, none⟩ u) g o0 o1 o2 u o4 o5 o6 o7 o8 := heap_setCell_same w g 3 _ 39 u h
theorem N9.set4 {w : World} {g : Nat} {o0 o1 o2 o3 o4 o5 o6 o7 o8 : Value} (h : N9 w g o0 o1 o2 o3 o4 o5 o6 o7 o8) (u : Value) : N9 (w.setCell ⟨g, 4, none⟩ u) g o0 o1 o2 o3 u o5 o6 o7 o8 := heap_setCell_same w g 4 _ 39 u h
theorem N9.set5 {w : World} {g : Nat} {o0 o1 o2 o3 o4 o5 o6 o7 o8 : Value} (h : N9 w g o0 o1 o2 o3 o4 o5 o6 o7 o8) (u : Value) : N9 (w.setCell ⟨g, 5, none⟩ u) g o0 o1 o2 o3 o4 u o6 o7 o8 := heap_setCell_same w g 5 _ 39 u h
theorem N9.set6 {w : World} {g : Nat} {o0 o1 o2 o3 o4 o5 o6 o7 o8 : Value} (h : N9 w g o0 o1 o2 o3 o4 o5 o6 o7 o8) (u : Value) : N9 (w.setCell ⟨g, 6, none⟩ u) g o0 o1 o2 o3 o4 o5 u o7 o8 := heap_setCell_same w g 6 _ 39 u h
theorem N9.set7 {w : World} {g : Nat} {o0 o1 o2 o3 o4 o5 o6 o7 o8 : Value} (h : N9 w g o0 o1 o2 o3 o4 o5 o6 o7 o8) (u : Value) : N9 (w.setCell ⟨g, 7, none⟩ u) g o0 o1 o2 o3 o4 o5 o6 u o8 := heap_setCell_same w g 7 _ 39 u h
theorem N9.set8 {w : World} {g : Nat} {o0 o1 o2 o3 o4 o5 o6 o7 o8 : Value} (h : N9 w g o0 o1 o2 o3 o4 o5 o6 o7 o8) (u : Value) : N9 (w.setCell ⟨g, 8, none⟩ u) g o0 o1 o2 o3 o4 o5 o6 o7 u := heap_setCell_same w g 8 _ 39 u h
/-- Nine stores into a block of nine cells. -/
theorem N9.put {w : World} {g : Nat} {o0 o1 o2 o3 o4 o5 o6 o7 o8 : Value} (h : N9 w g o0 o1 o2 o3 o4 o5 o6 o7 o8) (a0 a1 a2 a3 a4 a5 a6 a7 a8 : Value) : N9 (((((((((w.setCell ⟨g, 0, none⟩ (a0)).setCell ⟨g, 1, none⟩ (a1)).setCell ⟨g, 2, none⟩ (a2)).setCell ⟨g, 3, none⟩ (a3)).setCell ⟨g, 4, none⟩ (a4)).setCell ⟨g, 5, none⟩ (a5)).setCell ⟨g, 6, none⟩ (a6)).setCell ⟨g, 7, none⟩ (a7)).setCell ⟨g, 8, none⟩ (a8)) g a0 a1 a2 a3 a4 a5 a6 a7 a8 :=
  ((((((((h.set0 a0).set1 a1).set2 a2).set3 a3).set4 a4).set5 a5).set6 a6).set7 a7).set8 a8
theorem put_other {w : World} {g q : Nat} (hq : q ≠ g) (a0 a1 a2 a3 a4 a5 a6 a7 a8 : Value) : ((((((((((w.setCell ⟨g, 0, none⟩ (a0)).setCell ⟨g, 1, none⟩ (a1)).setCell ⟨g, 2, none⟩ (a2)).setCell ⟨g, 3, none⟩ (a3)).setCell ⟨g, 4, none⟩ (a4)).setCell ⟨g, 5, none⟩ (a5)).setCell ⟨g, 6, none⟩ (a6)).setCell ⟨g, 7, none⟩ (a7)).setCell ⟨g, 8, none⟩ (a8))).heap[q]? = w.heap[q]? := by
  rw [heap_setCell_other _ ⟨g, 8, none⟩ q _ hq, heap_setCell_other _ ⟨g, 7, none⟩ q _ hq, heap_setCell_other _ ⟨g, 6, none⟩ q _ hq, heap_setCell_other _ ⟨g, 5, none⟩ q _ hq, heap_setCell_other _ ⟨g, 4, none⟩ q _ hq, heap_setCell_other _ ⟨g, 3, none⟩ q _ hq, heap_setCell_other _ ⟨g, 2, none⟩ q _ hq, heap_setCell_other _ ⟨g, 1, none⟩ q _ hq, heap_setCell_other _ ⟨g, 0, none⟩ q _ hq]
theorem N9.putted {w : World} {g q : Nat} {o0 o1 o2 o3 o4 o5 o6 o7 o8 : Value} (h : N9 w q o0 o1 o2 o3 o4 o5 o6 o7 o8) (hq : q ≠ g) (a0 a1 a2 a3 a4 a5 a6 a7 a8 : Value) : N9 (((((((((w.setCell ⟨g, 0, none⟩ (a0)).setCell ⟨g, 1, none⟩ (a1)).setCell ⟨g, 2, none⟩ (a2)).setCell ⟨g, 3, none⟩ (a3)).setCell ⟨g, 4, none⟩ (a4)).setCell ⟨g, 5, none⟩ (a5)).setCell ⟨g, 6, none⟩ (a6)).setCell ⟨g, 7, none⟩ (a7)).setCell ⟨g, 8, none⟩ (a8)) q o0 o1 o2 o3 o4 o5 o6 o7 o8 := (put_other hq _ _ _ _ _ _ _ _ _).trans h
theorem N9.set_other {w : World} {g q : Nat} {o0 o1 o2 o3 o4 o5 o6 o7 o8 : Value} (h : N9 w q o0 o1 o2 o3 o4 o5 o6 o7 o8) (hq : q ≠ g) (i : Nat) (u : Value) : N9 (w.setCell ⟨g, i, none⟩ u) q o0 o1 o2 o3 o4 o5 o6 o7 o8 := (heap_setCell_other _ _ q _ hq).trans h
theorem three {w : World} {g : Nat} {a0 a1 a2 : Value} {T : TypeId} (h : w.heap[g]? = some (.cells #[a0, a1, a2] T (0, 0))) : (w.cell? ⟨g, 0, none⟩ = some a0 ∧ w.cell? ⟨g, 1, none⟩ = some a1 ∧ w.cell? ⟨g, 2, none⟩ = some a2) ∧ w.frozen? ⟨g, 0, none⟩ = false ∧ w.frozen? ⟨g, 1, none⟩ = false ∧ w.frozen? ⟨g, 2, none⟩ = false := by
  have cc := fun (j : Nat) (v : Value) (hj : (#[a0, a1, a2] : Array Value)[j]? = some v) => (cell_of_row w g j _ _ _ h).trans hj
  have ff := fun (j : Nat) => frozen_of_row w g j _ _ h
  exact ⟨⟨cc 0 _ rfl, cc 1 _ rfl, cc 2 _ rfl⟩, ff 0, ff 1, ff 2⟩

def Ss.new (b c : Nat) (t : Int) (ver : Nat) : Ss := ⟨0, ver, 0, 0, ⟨#[]⟩, false, b, c, t⟩
set_option maxRecDepth 100000 in
set_option maxHeartbeats 4000000 in
theorem new_any (b c : Nat) (t : Int) (ver : Nat) (w : World) : Calls Try.prog 12 #[.agg #[.int .u64 (b : Int), .int .u64 (c : Int), .int .i64 t], .int .u64 (ver : Int)] w fun r w' => r = .returned (Ss.new b c t ver).val ∧ Below w.heap.size w w' := by
  unfold Ss.new Ss.val
  simp only
  go_enter Try.func12, Try.ntmps12
  go_wp2
  refine bodyPost_ret (v := .agg #[.int .u64 ((0 : Nat) : Int), .int .u64 (ver : Int), .int .u64 ((0 : Nat) : Int), .int .u64 ((0 : Nat) : Int), .string ⟨#[]⟩, .bool false, .int .u64 (b : Int), .int .u64 (c : Int), .int .i64 t]) (by simp [results, Try.results12, go_sem, *]) rfl ⟨rfl, ?_⟩
  exact Bk.bt (alloc_below _ _)
end Go.Proofs.Ytdojepkmjifoeaa

namespace Go.Proofs.Ytdojepkmjifoeaa
open Go.RowKit

/-- Is an offer answered? -/
def dnOk (s : Ss) (nn : Nat) : Prop := nn = s.n ∧ nn ≠ 0 ∧ s.r = ⟨#[]⟩
instance (s : Ss) (nn : Nat) : Decidable (dnOk s nn) := by unfold dnOk; infer_instance
set_option maxRecDepth 100000 in
set_option maxHeartbeats 8000000 in
theorem done_not (s : Ss) (ver nn : Nat) (bd : ByteArray) (cd : Int) (hr : s.r.size ≤ 1000000000) (hn : ¬ dnOk s nn) (w : World) : Calls Try.prog 15 #[s.val, .agg #[.int .u64 (ver : Int), .int .u64 (nn : Int), .string bd], .int .i64 cd] w fun z w' => z = .returned (.tuple #[s.val, .string ⟨#[]⟩]) ∧ Below w.heap.size w w' := by
  have K30 := Lib.hid (fun w => own_any s hr w)
  obtain ⟨e, v, n, x, r, o, b, c, t⟩ := s
  unfold dnOk at hn
  simp only at hn
  unfold Ss.val at K30 ⊢
  simp only at K30 ⊢
  obtain ⟨w0, hw0⟩ : ∃ w0, w0 = (((w.alloc (.cells #[.int .u64 (e : Int), .int .u64 (v : Int), .int .u64 (n : Int), .int .u64 (x : Int), .string r, .bool o, .int .u64 (b : Int), .int .u64 (c : Int), .int .i64 t] 39)).alloc (.cells #[.int .u64 (ver : Int), .int .u64 (nn : Int), .string bd] 47)).alloc (.cells #[.int .u64 0, .int .u64 0, .int .u64 0, .int .u64 0, .string ⟨#[]⟩, .bool false, .int .u64 0, .int .u64 0, .int .i64 0] 39)) := ⟨_, rfl⟩
  have HB0 := Lib.hid (show Below w.heap.size w w0 by rw [hw0]; exact Bk.bt (Bk.bt (alloc_below _ _)))
  have HN0 := Lib.hid (show N9 w0 w.heap.size (.int .u64 (e : Int)) (.int .u64 (v : Int)) (.int .u64 (n : Int)) (.int .u64 (x : Int)) (.string r) (.bool o) (.int .u64 (b : Int)) (.int .u64 (c : Int)) (.int .i64 t) by rw [hw0]; exact ((N9.new _ _ _ _ _ _ _ _ _ _).later (alloc_below _ _)).later (alloc_below _ _))
  have HO0 := Lib.hid (show w0.heap[w.heap.size + 1]? = some (.cells #[.int .u64 (ver : Int), .int .u64 (nn : Int), .string bd] 47 (0, 0)) by
    rw [hw0]; have h := heap_alloc_new (w.alloc (.cells #[.int .u64 (e : Int), .int .u64 (v : Int), .int .u64 (n : Int), .int .u64 (x : Int), .string r, .bool o, .int .u64 (b : Int), .int .u64 (c : Int), .int .i64 t] 39)) (.cells #[.int .u64 (ver : Int), .int .u64 (nn : Int), .string bd] 47)
    have e : (w.alloc (.cells #[.int .u64 (e : Int), .int .u64 (v : Int), .int .u64 (n : Int), .int .u64 (x : Int), .string r, .bool o, .int .u64 (b : Int), .int .u64 (c : Int), .int .i64 t] 39)).heap.size = w.heap.size + 1 := by simp
    rw [e] at h
    exact ((alloc_below _ _).block _ (lt_of_heap h)).trans h)
  have HM0 := Lib.hid (show N9 w0 (w.heap.size + 1 + 1) (.int .u64 0) (.int .u64 0) (.int .u64 0) (.int .u64 0) (.string ⟨#[]⟩) (.bool false) (.int .u64 0) (.int .u64 0) (.int .i64 0) by
    rw [hw0]; have h := N9.new ((w.alloc (.cells #[.int .u64 (e : Int), .int .u64 (v : Int), .int .u64 (n : Int), .int .u64 (x : Int), .string r, .bool o, .int .u64 (b : Int), .int .u64 (c : Int), .int .i64 t] 39)).alloc (.cells #[.int .u64 (ver : Int), .int .u64 (nn : Int), .string bd] 47)) (.int .u64 0) (.int .u64 0) (.int .u64 0) (.int .u64 0) (.string ⟨#[]⟩) (.bool false) (.int .u64 0) (.int .u64 0) (.int .i64 0)
    have e : ((w.alloc (.cells #[.int .u64 (e : Int), .int .u64 (v : Int), .int .u64 (n : Int), .int .u64 (x : Int), .string r, .bool o, .int .u64 (b : Int), .int .u64 (c : Int), .int .i64 t] 39)).alloc (.cells #[.int .u64 (ver : Int), .int .u64 (nn : Int), .string bd] 47)).heap.size = w.heap.size + 1 + 1 := by simp
    rw [e] at h; exact h)
  clear hr
  go_enter Try.func15, Try.ntmps15
  go_upto_region 2 with (first
    | (rw [← hw0]; clear hw0; obtain ⟨⟨c0, c1, c2, c3, c4, c5, c6, c7, c8⟩, f0, f1, f2, f3, f4, f5, f6, f7, f8⟩ := nine HN0.out)
    | (go_at_call 30; ((with_reducible refine (K30.out _).mono ?_); rintro z w1 ⟨rfl, hb1⟩; have HB1 := Lib.hid (HB0.out.trans (hb1.mono HB0.out.size)); have HN1 := Lib.hid (HN0.out.later hb1); have HM1 := Lib.hid (HM0.out.later hb1); have HO1 := Lib.hid ((hb1.block _ (lt_of_heap HO0.out)).trans HO0.out); obtain ⟨⟨c0, c1, c2, c3, c4, c5, c6, c7, c8⟩, f0, f1, f2, f3, f4, f5, f6, f7, f8⟩ := nine HN1.out; clear hb1)))
  have HN2 := Lib.hid (HN1.out.put (.int .u64 (e : Int)) (.int .u64 (v : Int)) (.int .u64 (n : Int)) (.int .u64 (x : Int)) (.string r) (.bool o) (.int .u64 (b : Int)) (.int .u64 (c : Int)) (.int .i64 t))
  have HM2 := Lib.hid (HM1.out.putted (g := w.heap.size) (by omega) (.int .u64 (e : Int)) (.int .u64 (v : Int)) (.int .u64 (n : Int)) (.int .u64 (x : Int)) (.string r) (.bool o) (.int .u64 (b : Int)) (.int .u64 (c : Int)) (.int .i64 t))
  have HO2 := Lib.hid ((put_other (w := w1) (g := w.heap.size) (q := w.heap.size + 1) (by omega) (.int .u64 (e : Int)) (.int .u64 (v : Int)) (.int .u64 (n : Int)) (.int .u64 (x : Int)) (.string r) (.bool o) (.int .u64 (b : Int)) (.int .u64 (c : Int)) (.int .i64 t)).trans HO1.out)
  have HB2 := Lib.hid (set9 (Nat.le_refl _) HB1.out (.int .u64 (e : Int)) (.int .u64 (v : Int)) (.int .u64 (n : Int)) (.int .u64 (x : Int)) (.string r) (.bool o) (.int .u64 (b : Int)) (.int .u64 (c : Int)) (.int .i64 t))
  generalize (((((((((w1.setCell ⟨w.heap.size, 0, none⟩ (.int .u64 (e : Int))).setCell ⟨w.heap.size, 1, none⟩ (.int .u64 (v : Int))).setCell ⟨w.heap.size, 2, none⟩ (.int .u64 (n : Int))).setCell ⟨w.heap.size, 3, none⟩ (.int .u64 (x : Int))).setCell ⟨w.heap.size, 4, none⟩ (.string r)).setCell ⟨w.heap.size, 5, none⟩ (.bool o)).setCell ⟨w.heap.size, 6, none⟩ (.int .u64 (b : Int))).setCell ⟨w.heap.size, 7, none⟩ (.int .u64 (c : Int))).setCell ⟨w.heap.size, 8, none⟩ (.int .i64 t)) = w2 at *
  clear c0 c1 c2 c3 c4 c5 c6 c7 c8 f0 f1 f2 f3 f4 f5 f6 f7 f8
  obtain ⟨⟨c0, c1, c2, c3, c4, c5, c6, c7, c8⟩, f0, f1, f2, f3, f4, f5, f6, f7, f8⟩ := nine HN2.out
  obtain ⟨⟨d0, d1, d2, d3, d4, d5, d6, d7, d8⟩, g0, g1, g2, g3, g4, g5, g6, g7, g8⟩ := nine HM2.out
  obtain ⟨⟨b0, b1, b2⟩, _⟩ := three HO2.out
  have HFIN : Hid (∀ a0 a1 a2 a3 a4 a5 a6 a7 a8, Below w.heap.size w (((((((((w2.setCell ⟨w.heap.size + 1 + 1, 0, none⟩ (a0)).setCell ⟨w.heap.size + 1 + 1, 1, none⟩ (a1)).setCell ⟨w.heap.size + 1 + 1, 2, none⟩ (a2)).setCell ⟨w.heap.size + 1 + 1, 3, none⟩ (a3)).setCell ⟨w.heap.size + 1 + 1, 4, none⟩ (a4)).setCell ⟨w.heap.size + 1 + 1, 5, none⟩ (a5)).setCell ⟨w.heap.size + 1 + 1, 6, none⟩ (a6)).setCell ⟨w.heap.size + 1 + 1, 7, none⟩ (a7)).setCell ⟨w.heap.size + 1 + 1, 8, none⟩ (a8))) := Lib.hid (fun _ _ _ _ _ _ _ _ _ => set9 (by omega) HB2.out _ _ _ _ _ _ _ _ _)
  by_cases h1 : nn = n
  · subst h1
    by_cases h2 : nn = 0
    · subst h2
      clear hn
      go_wp2
      all_goals
        refine bodyPost_ret (v := .tuple #[.agg #[.int .u64 (e : Int), .int .u64 (v : Int), .int .u64 ((0 : Nat) : Int), .int .u64 (x : Int), .string r, .bool o, .int .u64 (b : Int), .int .u64 (c : Int), .int .i64 t], .string ⟨#[]⟩]) (by simp [results, Try.results15, go_sem, *]) rfl ⟨rfl, ?_⟩
        exact HFIN.out _ _ _ _ _ _ _ _ _
    · have h3 : r ≠ ⟨#[]⟩ := fun h => hn ⟨rfl, h2, h⟩
      have t5 := nempty h3
      have t2 : ((nn : Int) == 0) = false := by rw [beq_eq_false_iff_ne]; omega
      clear hn h2 h3
      go_wp2
      all_goals
        refine bodyPost_ret (v := .tuple #[.agg #[.int .u64 (e : Int), .int .u64 (v : Int), .int .u64 (nn : Int), .int .u64 (x : Int), .string r, .bool o, .int .u64 (b : Int), .int .u64 (c : Int), .int .i64 t], .string ⟨#[]⟩]) (by simp [results, Try.results15, go_sem, *]) rfl ⟨rfl, ?_⟩
        exact HFIN.out _ _ _ _ _ _ _ _ _
  · have t1 : ((nn : Int) == (n : Int)) = false := by rw [beq_eq_false_iff_ne]; omega
    clear hn h1
    go_wp2
    all_goals
      refine bodyPost_ret (v := .tuple #[.agg #[.int .u64 (e : Int), .int .u64 (v : Int), .int .u64 (n : Int), .int .u64 (x : Int), .string r, .bool o, .int .u64 (b : Int), .int .u64 (c : Int), .int .i64 t], .string ⟨#[]⟩]) (by simp [results, Try.results15, go_sem, *]) rfl ⟨rfl, ?_⟩
      exact HFIN.out _ _ _ _ _ _ _ _ _
end Go.Proofs.Ytdojepkmjifoeaa
