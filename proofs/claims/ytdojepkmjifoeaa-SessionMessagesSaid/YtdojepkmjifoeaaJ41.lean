/- Walk of layer 18's awake.; word.Add; a session as a value; own, New.; Sessions: known, New. -/
import Derived.Test.YtdojepkmjifoeaaJ40
import Derived.Test.YtdojepkmjifoeaaJ34
set_option linter.unusedVariables false
set_option linter.unusedSimpArgs false
namespace Go.Proofs.Ytdojepkmjifoeaa.Bk
open Go.RowKit

theorem d0 (w : World) : Calls Try.prog 35 #[.agg #[.int .u64 3, .int .u64 20, .int .i64 0]] w fun e w' => e = .returned (.int .u64 3) ∧ Below w.heap.size w w' := by
  have h := delay_any 3 20 0 0 rfl (by omega) (by omega) (by omega) w
  rw [show dl 3 20 0 = 3 from rfl] at h
  exact h
theorem d2 (w : World) : Calls Try.prog 35 #[.agg #[.int .u64 3, .int .u64 20, .int .i64 2]] w fun e w' => e = .returned (.int .u64 12) ∧ Below w.heap.size w w' := by
  have h := delay_any 3 20 2 2 rfl (by omega) (by omega) (by omega) w
  rw [show dl 3 20 2 = 12 from rfl] at h
  exact h
theorem d3 (w : World) : Calls Try.prog 35 #[.agg #[.int .u64 3, .int .u64 20, .int .i64 3]] w fun e w' => e = .returned (.int .u64 20) ∧ Below w.heap.size w w' := by
  have h := delay_any 3 20 3 3 rfl (by omega) (by omega) (by omega) w
  rw [show dl 3 20 3 = 20 from rfl] at h
  exact h
theorem n0 (w : World) : Calls Try.prog 36 #[.agg #[.int .u64 3, .int .u64 20, .int .i64 0]] w fun e w' => e = .returned (.agg #[.int .u64 3, .int .u64 20, .int .i64 1]) ∧ Below w.heap.size w w' := next_any 3 20 0 0 rfl w
theorem n1 (w : World) : Calls Try.prog 36 #[.agg #[.int .u64 3, .int .u64 20, .int .i64 1]] w fun e w' => e = .returned (.agg #[.int .u64 3, .int .u64 20, .int .i64 2]) ∧ Below w.heap.size w w' := next_any 3 20 1 1 rfl w
theorem n2 (w : World) : Calls Try.prog 36 #[.agg #[.int .u64 3, .int .u64 20, .int .i64 2]] w fun e w' => e = .returned (.agg #[.int .u64 3, .int .u64 20, .int .i64 3]) ∧ Below w.heap.size w w' := next_any 3 20 2 2 rfl w
set_option maxHeartbeats 1000000 in
theorem awake18_any (w : World) : Calls Try.prog 39 #[] w fun e w' => e = .returned (.bool true) ∧ Below w.heap.size w w' := by
  have K10 := Lib.hid (fun w => awake1_any w)
  have A0 := Lib.hid (fun w => d0 w)
  have A2 := Lib.hid (fun w => d2 w)
  have A3 := Lib.hid (fun w => d3 w)
  have N0 := Lib.hid (fun w => n0 w)
  have N1 := Lib.hid (fun w => n1 w)
  have N2 := Lib.hid (fun w => n2 w)
  have HB := Lib.hid (Below.refl (w.alloc (.cells #[.int .u64 3, .int .u64 20, .int .i64 0] 37)).heap.size (w.alloc (.cells #[.int .u64 3, .int .u64 20, .int .i64 0] 37)))
  go_enter Try.func39, Try.ntmps39
  go_wp2_with (first
    | (go_at_call 58; ((with_reducible refine (K10.out _).mono ?_); rintro e w1 ⟨rfl, hk⟩; replace HB := Lib.hid (HB.out.trans (hk.mono HB.out.size)); obtain ⟨c0, c1, c2⟩ := box3 HB.out; clear hk))
    | (go_at_call 35; (first
        | ((with_reducible refine (A0.out _).mono ?_); rintro e w1 ⟨rfl, hk⟩; replace HB := Lib.hid (HB.out.trans (hk.mono HB.out.size)); obtain ⟨c0, c1, c2⟩ := box3 HB.out; clear hk)
        | ((with_reducible refine (A2.out _).mono ?_); rintro e w1 ⟨rfl, hk⟩; replace HB := Lib.hid (HB.out.trans (hk.mono HB.out.size)); obtain ⟨c0, c1, c2⟩ := box3 HB.out; clear hk)
        | ((with_reducible refine (A3.out _).mono ?_); rintro e w1 ⟨rfl, hk⟩; replace HB := Lib.hid (HB.out.trans (hk.mono HB.out.size)); obtain ⟨c0, c1, c2⟩ := box3 HB.out; clear hk)))
    | (go_at_call 36; (first
        | ((with_reducible refine (N0.out _).mono ?_); rintro e w1 ⟨rfl, hk⟩; replace HB := Lib.hid (HB.out.trans (hk.mono HB.out.size)); obtain ⟨c0, c1, c2⟩ := box3 HB.out; clear hk)
        | ((with_reducible refine (N1.out _).mono ?_); rintro e w1 ⟨rfl, hk⟩; replace HB := Lib.hid (HB.out.trans (hk.mono HB.out.size)); obtain ⟨c0, c1, c2⟩ := box3 HB.out; clear hk)
        | ((with_reducible refine (N2.out _).mono ?_); rintro e w1 ⟨rfl, hk⟩; replace HB := Lib.hid (HB.out.trans (hk.mono HB.out.size)); obtain ⟨c0, c1, c2⟩ := box3 HB.out; clear hk))))
  go_ret
  exact ⟨rfl, bt HB.out⟩
end Go.Proofs.Ytdojepkmjifoeaa.Bk

namespace Go.Proofs.Ytdojepkmjifoeaa
open Go.RowKit

def adN (a b : Nat) : Nat := min (a + b) 18446744073709551615
theorem run53 (a b : Nat) (ha : a ≤ 18446744073709551615) (hb : b ≤ 18446744073709551615) (w : World) :
    (callFunc 53 #[.int .u64 (a : Int), .int .u64 (b : Int), .int .u64 0]).run Try.prog w = .ok (.value (.tuple #[.int .u64 (((a + b) % 18446744073709551616 : Nat) : Int), .int .u64 (((a + b) / 18446744073709551616 : Nat) : Int)])) w := by
  rw [run_callFunc_extern Try.func53 (by kernel_rfl) (by kernel_rfl) (by kernel_rfl) (e := add64Entry) (by kernel_rfl), run_add64 (a : Int) (b : Int) 0 (by omega) (by omega) (by omega) (by omega)]
  have e1 : ((a : Int) + b + 0) % 18446744073709551616 = (((a + b) % 18446744073709551616 : Nat) : Int) := by omega
  have e2 : ((a : Int) + b + 0) / 18446744073709551616 = (((a + b) / 18446744073709551616 : Nat) : Int) := by omega
  simp only [Result.andThen, e1, e2]
theorem wadd_any (a b : Nat) (ha : a ≤ 18446744073709551615) (hb : b ≤ 18446744073709551615) (w : World) : Calls Try.prog 31 #[.int .u64 (a : Int), .int .u64 (b : Int)] w fun e w' => e = .returned (.int .u64 (adN a b : Nat)) ∧ w = w' := by
  have hr := fun w => run53 a b ha hb w
  by_cases h : a + b ≤ 18446744073709551615
  · have e1 : (a + b) % 18446744073709551616 = adN a b := by unfold adN; omega
    have e2 : (a + b) / 18446744073709551616 = 0 := by omega
    rw [e1, e2] at hr
    generalize adN a b = s at *
    clear e1 e2 h ha hb
    go_enter Try.func31, Try.ntmps31
    go_wp2
    go_ret
    exact ⟨rfl, rfl⟩
  · have e1 : adN a b = 18446744073709551615 := by unfold adN; omega
    have e2 : (a + b) / 18446744073709551616 = 1 := by omega
    rw [e1]
    rw [e2] at hr
    generalize (a + b) % 18446744073709551616 = s at *
    clear e1 e2 h ha hb
    go_enter Try.func31, Try.ntmps31
    go_wp2
    go_ret
    exact ⟨rfl, rfl⟩

/-- A session. -/
structure Ss where
  e : Nat
  v : Nat
  n : Nat
  x : Nat
  r : ByteArray
  o : Bool
  b : Nat
  c : Nat
  t : Int
def Ss.l (s : Ss) : List Value := [.int .u64 (s.e : Int), .int .u64 (s.v : Int), .int .u64 (s.n : Int), .int .u64 (s.x : Int), .string s.r, .bool s.o, .int .u64 (s.b : Int), .int .u64 (s.c : Int), .int .i64 s.t]
def Ss.val (s : Ss) : Value := .agg #[.int .u64 (s.e : Int), .int .u64 (s.v : Int), .int .u64 (s.n : Int), .int .u64 (s.x : Int), .string s.r, .bool s.o, .int .u64 (s.b : Int), .int .u64 (s.c : Int), .int .i64 s.t]
structure Ss.ok (s : Ss) : Prop where
  e : s.e ≤ 18446744073709551615
  v : s.v ≤ 18446744073709551615
  n : s.n ≤ 18446744073709551615
  x : s.x ≤ 18446744073709551615
  r : s.r.size ≤ 1000000000
  b : s.b ≤ 18446744073709551615
  c : s.c ≤ 18446744073709551615
theorem nine {w : World} {g : Nat} {a0 a1 a2 a3 a4 a5 a6 a7 a8 : Value} {T : TypeId} (h : w.heap[g]? = some (.cells #[a0, a1, a2, a3, a4, a5, a6, a7, a8] T (0, 0))) : (w.cell? ⟨g, 0, none⟩ = some a0 ∧ w.cell? ⟨g, 1, none⟩ = some a1 ∧ w.cell? ⟨g, 2, none⟩ = some a2 ∧ w.cell? ⟨g, 3, none⟩ = some a3 ∧ w.cell? ⟨g, 4, none⟩ = some a4 ∧ w.cell? ⟨g, 5, none⟩ = some a5 ∧ w.cell? ⟨g, 6, none⟩ = some a6 ∧ w.cell? ⟨g, 7, none⟩ = some a7 ∧ w.cell? ⟨g, 8, none⟩ = some a8) ∧ (w.frozen? ⟨g, 0, none⟩ = false ∧ w.frozen? ⟨g, 1, none⟩ = false ∧ w.frozen? ⟨g, 2, none⟩ = false ∧ w.frozen? ⟨g, 3, none⟩ = false ∧ w.frozen? ⟨g, 4, none⟩ = false ∧ w.frozen? ⟨g, 5, none⟩ = false ∧ w.frozen? ⟨g, 6, none⟩ = false ∧ w.frozen? ⟨g, 7, none⟩ = false ∧ w.frozen? ⟨g, 8, none⟩ = false) := by
  have cc := fun (j : Nat) (v : Value) (hj : (#[a0, a1, a2, a3, a4, a5, a6, a7, a8] : Array Value)[j]? = some v) => (cell_of_row w g j _ _ _ h).trans hj
  have ff := fun (j : Nat) => frozen_of_row w g j _ _ h
  exact ⟨⟨cc 0 _ rfl, cc 1 _ rfl, cc 2 _ rfl, cc 3 _ rfl, cc 4 _ rfl, cc 5 _ rfl, cc 6 _ rfl, cc 7 _ rfl, cc 8 _ rfl⟩, ⟨ff 0, ff 1, ff 2, ff 3, ff 4, ff 5, ff 6, ff 7, ff 8⟩⟩
/-- What a block of nine cells holds. -/
def N9 (w : World) (g : Nat) (a0 a1 a2 a3 a4 a5 a6 a7 a8 : Value) : Prop := w.heap[g]? = some (.cells #[a0, a1, a2, a3, a4, a5, a6, a7, a8] 39 (0, 0))
theorem N9.later {w w' : World} {g : Nat} {a0 a1 a2 a3 a4 a5 a6 a7 a8 : Value} (h : N9 w g a0 a1 a2 a3 a4 a5 a6 a7 a8) (hb : Below w.heap.size w w') : N9 w' g a0 a1 a2 a3 a4 a5 a6 a7 a8 := (hb.block _ (lt_of_heap h)).trans h
theorem N9.new (w : World) (a0 a1 a2 a3 a4 a5 a6 a7 a8 : Value) : N9 (w.alloc (.cells #[a0, a1, a2, a3, a4, a5, a6, a7, a8] 39)) w.heap.size a0 a1 a2 a3 a4 a5 a6 a7 a8 := heap_alloc_new w _
theorem N9.lt {w : World} {g : Nat} {a0 a1 a2 a3 a4 a5 a6 a7 a8 : Value} (h : N9 w g a0 a1 a2 a3 a4 a5 a6 a7 a8) : g < w.heap.size := lt_of_heap h
theorem set9 {B : Nat} {w w' : World} {g : Nat} (hg : B ≤ g) (hb : Below B w w') (a0 a1 a2 a3 a4 a5 a6 a7 a8 : Value) : Below B w (((((((((w'.setCell ⟨g, 0, none⟩ a0).setCell ⟨g, 1, none⟩ a1).setCell ⟨g, 2, none⟩ a2).setCell ⟨g, 3, none⟩ a3).setCell ⟨g, 4, none⟩ a4).setCell ⟨g, 5, none⟩ a5).setCell ⟨g, 6, none⟩ a6).setCell ⟨g, 7, none⟩ a7).setCell ⟨g, 8, none⟩ a8) :=
  ((((((((hb.setCell hg _).setCell hg _).setCell hg _).setCell hg _).setCell hg _).setCell hg _).setCell hg _).setCell hg _).setCell hg _
set_option maxRecDepth 100000 in
set_option maxHeartbeats 4000000 in
theorem own_any (s : Ss) (hr : s.r.size ≤ 1000000000) (w : World) : Calls Try.prog 30 #[s.val] w fun e w' => e = .returned s.val ∧ Below w.heap.size w w' := by
  obtain ⟨e, v, n, x, r, o, b, c, t⟩ := s
  have K := Lib.hid (fun w => clone_any r w hr)
  clear hr
  unfold Ss.val
  simp only
  obtain ⟨w0, hw0⟩ : ∃ w0, w0 = (w.alloc (.cells #[.int .u64 (e : Int), .int .u64 (v : Int), .int .u64 (n : Int), .int .u64 (x : Int), .string r, .bool o, .int .u64 (b : Int), .int .u64 (c : Int), .int .i64 t] 39)).alloc (.cells #[.int .u64 0, .int .u64 0, .int .u64 0, .int .u64 0, .string ⟨#[]⟩, .bool false, .int .u64 0, .int .u64 0, .int .i64 0] 39) := ⟨_, rfl⟩
  have HB0 := Lib.hid (show Below w.heap.size w w0 by rw [hw0]; exact Bk.bt (alloc_below _ _))
  have HN0 := Lib.hid (show N9 w0 w.heap.size (.int .u64 (e : Int)) (.int .u64 (v : Int)) (.int .u64 (n : Int)) (.int .u64 (x : Int)) (.string r) (.bool o) (.int .u64 (b : Int)) (.int .u64 (c : Int)) (.int .i64 t) by rw [hw0]; exact (N9.new _ _ _ _ _ _ _ _ _ _).later (alloc_below _ _))
  have HM0 := Lib.hid (show N9 w0 (w.heap.size + 1) (.int .u64 0) (.int .u64 0) (.int .u64 0) (.int .u64 0) (.string ⟨#[]⟩) (.bool false) (.int .u64 0) (.int .u64 0) (.int .i64 0) by
    rw [hw0]; have h := N9.new (w.alloc (.cells #[.int .u64 (e : Int), .int .u64 (v : Int), .int .u64 (n : Int), .int .u64 (x : Int), .string r, .bool o, .int .u64 (b : Int), .int .u64 (c : Int), .int .i64 t] 39)) (.int .u64 0) (.int .u64 0) (.int .u64 0) (.int .u64 0) (.string ⟨#[]⟩) (.bool false) (.int .u64 0) (.int .u64 0) (.int .i64 0)
    have e : (w.alloc (.cells #[.int .u64 (e : Int), .int .u64 (v : Int), .int .u64 (n : Int), .int .u64 (x : Int), .string r, .bool o, .int .u64 (b : Int), .int .u64 (c : Int), .int .i64 t] 39)).heap.size = w.heap.size + 1 := by simp
    rw [e] at h; exact h)
  go_enter Try.func30, Try.ntmps30
  go_wp2_with fail
  rw [← hw0]
  clear hw0
  refine (K.out _).mono ?_
  rintro z w1 ⟨rfl, hb1⟩
  have HB1 := Lib.hid (HB0.out.trans (hb1.mono HB0.out.size))
  obtain ⟨⟨c0, c1, c2, c3, c4, c5, c6, c7, c8⟩, f0, f1, f2, f3, f4, f5, f6, f7, f8⟩ := nine (HN0.out.later hb1)
  obtain ⟨⟨d0, d1, d2, d3, d4, d5, d6, d7, d8⟩, g0, g1, g2, g3, g4, g5, g6, g7, g8⟩ := nine (HM0.out.later hb1)
  clear hb1
  go_wp2
  refine bodyPost_ret (v := .agg #[.int .u64 (e : Int), .int .u64 (v : Int), .int .u64 (n : Int), .int .u64 (x : Int), .string r, .bool o, .int .u64 (b : Int), .int .u64 (c : Int), .int .i64 t]) (by simp [results, Try.results30, go_sem, *]) rfl ⟨rfl, ?_⟩
  exact set9 (Nat.le_succ _) (HB1.out.setCell (p := ⟨w.heap.size, 4, none⟩) (Nat.le_refl _) _) _ _ _ _ _ _ _ _ _
end Go.Proofs.Ytdojepkmjifoeaa

namespace Go.Proofs.Ytdojepkmjifoeaa
open Go.RowKit

def knC (s : Ss) (ep nn : Nat) : Nat := if s.o = false then 18 else if ep ≠ s.e then 18 else if nn < s.n then 18 else if s.n < nn then 0 else if s.r = ⟨#[]⟩ then 18 else 11
def knR (s : Ss) (ep nn : Nat) : ByteArray := if knC s ep nn = 11 then s.r else ⟨#[]⟩
theorem nempty {r : ByteArray} (h : r ≠ ⟨#[]⟩) : r.toList.isEmpty = false := by
  rw [Lib.toList_data]
  cases hh : r.data.toList with
  | nil => exact absurd (ByteArray.ext (Array.ext' (by rw [hh]))) h
  | cons a l => rfl
set_option maxRecDepth 100000 in
set_option maxHeartbeats 4000000 in
theorem known_any (s : Ss) (ep nn : Nat) (hr : s.r.size ≤ 1000000000) (w : World) : Calls Try.prog 32 #[s.val, .int .u64 (ep : Int), .int .u64 (nn : Int)] w fun x w' => x = .returned (.tuple #[.string (knR s ep nn), .int .i64 (knC s ep nn : Nat)]) ∧ Below w.heap.size w w' := by
  obtain ⟨e, v, n, x, r, o, b, c, t⟩ := s
  have K := Lib.hid (fun w => clone_any r w hr)
  clear hr
  obtain ⟨⟨c0, c1, c2, c3, c4, c5, c6, c7, c8⟩, _⟩ := nine (N9.new w (.int .u64 (e : Int)) (.int .u64 (v : Int)) (.int .u64 (n : Int)) (.int .u64 (x : Int)) (.string r) (.bool o) (.int .u64 (b : Int)) (.int .u64 (c : Int)) (.int .i64 t))
  have HB := Lib.hid (alloc_below w (.cells #[.int .u64 (e : Int), .int .u64 (v : Int), .int .u64 (n : Int), .int .u64 (x : Int), .string r, .bool o, .int .u64 (b : Int), .int .u64 (c : Int), .int .i64 t] 39))
  by_cases h0 : o = false
  · have hC : knC ⟨e, v, n, x, r, o, b, c, t⟩ ep nn = 18 := by unfold knC; rw [if_pos h0]
    have hR : knR ⟨e, v, n, x, r, o, b, c, t⟩ ep nn = ⟨#[]⟩ := by unfold knR; rw [if_neg (by omega)]
    rw [hC, hR]
    clear hC hR
    subst h0
    unfold Ss.val
    simp only
    go_enter Try.func32, Try.ntmps32
    go_wp2
    all_goals
      go_ret2
      exact ⟨rfl, HB.out⟩
  by_cases h1 : ep = e
  · by_cases h2 : nn < n
    · have hC : knC ⟨e, v, n, x, r, o, b, c, t⟩ ep nn = 18 := by unfold knC; rw [if_neg h0, if_neg (by simpa using h1), if_pos h2]
      have hR : knR ⟨e, v, n, x, r, o, b, c, t⟩ ep nn = ⟨#[]⟩ := by unfold knR; rw [if_neg (by omega)]
      rw [hC, hR]
      clear hC hR
      obtain rfl : o = true := by simpa using h0
      subst h1
      have t2 : decide ((nn : Int) < (n : Int)) = true := by rw [decide_eq_true_iff]; omega
      unfold Ss.val
      simp only
      go_enter Try.func32, Try.ntmps32
      go_wp2
      all_goals
        go_ret2
        exact ⟨rfl, HB.out⟩
    · have t2 : decide ((nn : Int) < (n : Int)) = false := by rw [decide_eq_false_iff_not]; omega
      by_cases h3 : n < nn
      · have hC : knC ⟨e, v, n, x, r, o, b, c, t⟩ ep nn = 0 := by unfold knC; rw [if_neg h0, if_neg (by simpa using h1), if_neg h2, if_pos h3]
        have hR : knR ⟨e, v, n, x, r, o, b, c, t⟩ ep nn = ⟨#[]⟩ := by unfold knR; rw [if_neg (by omega)]
        rw [hC, hR]
        clear hC hR
        obtain rfl : o = true := by simpa using h0
        subst h1
        have t3 : (n : Int) < (nn : Int) := by omega
        unfold Ss.val
        simp only
        go_enter Try.func32, Try.ntmps32
        go_wp2
        all_goals
          go_ret2
          exact ⟨rfl, HB.out⟩
      · have h4 : nn = n := by omega
        by_cases h5 : r = ⟨#[]⟩
        · have hC : knC ⟨e, v, n, x, r, o, b, c, t⟩ ep nn = 18 := by unfold knC; rw [if_neg h0, if_neg (by simpa using h1), if_neg h2, if_neg h3, if_pos h5]
          have hR : knR ⟨e, v, n, x, r, o, b, c, t⟩ ep nn = ⟨#[]⟩ := by unfold knR; rw [if_neg (by omega)]
          rw [hC, hR]
          clear hC hR
          obtain rfl : o = true := by simpa using h0
          subst h1 h4 h5
          unfold Ss.val
          simp only
          go_enter Try.func32, Try.ntmps32
          go_wp2
          all_goals
            go_ret2
            exact ⟨rfl, HB.out⟩
        · have hC : knC ⟨e, v, n, x, r, o, b, c, t⟩ ep nn = 11 := by unfold knC; rw [if_neg h0, if_neg (by simpa using h1), if_neg h2, if_neg h3, if_neg h5]
          have hR : knR ⟨e, v, n, x, r, o, b, c, t⟩ ep nn = r := by unfold knR; rw [if_pos hC]
          rw [hC, hR]
          clear hC hR
          have t5 := nempty h5
          obtain rfl : o = true := by simpa using h0
          subst h1 h4
          unfold Ss.val
          simp only
          clear h2 h3 h5
          go_enter Try.func32, Try.ntmps32
          go_wp2_with (first | (go_at_call 34; ((with_reducible refine (K.out _).mono ?_); rintro z w1 ⟨rfl, hb1⟩)))
          all_goals
            go_ret2
            exact ⟨rfl, HB.out.trans (hb1.mono HB.out.size)⟩
  · have hC : knC ⟨e, v, n, x, r, o, b, c, t⟩ ep nn = 18 := by unfold knC; rw [if_neg h0, if_pos h1]
    have hR : knR ⟨e, v, n, x, r, o, b, c, t⟩ ep nn = ⟨#[]⟩ := by unfold knR; rw [if_neg (by omega)]
    rw [hC, hR]
    clear hC hR
    obtain rfl : o = true := by simpa using h0
    have t1 : ((ep : Int) == (e : Int)) = false := by rw [beq_eq_false_iff_ne]; omega
    unfold Ss.val
    simp only
    go_enter Try.func32, Try.ntmps32
    go_wp2
    all_goals
      go_ret2
      exact ⟨rfl, HB.out⟩
end Go.Proofs.Ytdojepkmjifoeaa
