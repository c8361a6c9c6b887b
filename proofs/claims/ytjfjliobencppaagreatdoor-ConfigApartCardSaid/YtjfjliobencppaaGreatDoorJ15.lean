/- config: Same of any two configs. -/
import Derived.Test.YtjfjliobencppaaGreatDoorJ14
set_option linter.unusedVariables false
set_option linter.unusedSimpArgs false
namespace Go.Proofs.YtjfjliobencppaaGreatDoor.Cf
open Go.RowKit

set_option maxRecDepth 100000 in
set_option maxHeartbeats 4000000 in
theorem same_walk (v v2 : Nat) (o o2 k k2 : Option Addr) (n cap n2 cap2 m C m2 C2 : Nat) (p q : Bool) (w : World)
    (h1 : ∀ wz, Below w.heap.size w wz → Calls Tryz.prog 31 #[.slice o n cap, .slice o2 n2 cap2, .func (.func 32) #[] #[]] wz (TrP p wz))
    (h2 : ∀ wz, Below w.heap.size w wz → Calls Tryz.prog 33 #[.slice k m C, .slice k2 m2 C2, .func (.func 34) #[] #[]] wz (TrP q wz)) :
    Calls Tryz.prog 14 #[.agg #[.int .u64 (v : Int), .slice o n cap, .slice k m C], .agg #[.int .u64 (v2 : Int), .slice o2 n2 cap2, .slice k2 m2 C2]] w (TrP (decide (v = v2) && p && q) w) := by
  have HB0 := Lib.hid (show Below w.heap.size w ((w.alloc (.cells #[.int .u64 (v : Int), .slice o n cap, .slice k m C] 26)).alloc (.cells #[.int .u64 (v2 : Int), .slice o2 n2 cap2, .slice k2 m2 C2] 26)) from (alloc_below _ _).trans ((alloc_below _ _).mono (by simp)))
  have HX0 := Lib.hid (show Bk ((w.alloc (.cells #[.int .u64 (v : Int), .slice o n cap, .slice k m C] 26)).alloc (.cells #[.int .u64 (v2 : Int), .slice o2 n2 cap2, .slice k2 m2 C2] 26)) w.heap.size #[.int .u64 (v : Int), .slice o n cap, .slice k m C] 26 from ((alloc_below _ _).block _ (by simp)).trans (heap_alloc_new w _))
  have HY0 : Hid (Bk ((w.alloc (.cells #[.int .u64 (v : Int), .slice o n cap, .slice k m C] 26)).alloc (.cells #[.int .u64 (v2 : Int), .slice o2 n2 cap2, .slice k2 m2 C2] 26)) (w.heap.size + 1) #[.int .u64 (v2 : Int), .slice o2 n2 cap2, .slice k2 m2 C2] 26) := Lib.hid (by
    have h := heap_alloc_new (w.alloc (.cells #[.int .u64 (v : Int), .slice o n cap, .slice k m C] 26)) (.cells #[.int .u64 (v2 : Int), .slice o2 n2 cap2, .slice k2 m2 C2] 26)
    rw [show (w.alloc (.cells #[.int .u64 (v : Int), .slice o n cap, .slice k m C] 26)).heap.size = w.heap.size + 1 by simp] at h
    exact h)
  obtain ⟨w0, hw0⟩ : ∃ w0, w0 = ((w.alloc (.cells #[.int .u64 (v : Int), .slice o n cap, .slice k m C] 26)).alloc (.cells #[.int .u64 (v2 : Int), .slice o2 n2 cap2, .slice k2 m2 C2] 26)) := ⟨_, rfl⟩
  rw [← hw0] at HB0 HX0 HY0
  have f0 : w0.cell? ⟨w.heap.size, 0, none⟩ = some (.int .u64 (v : Int)) := (cell_of_row _ _ 0 _ _ _ HX0.out).trans rfl
  have f1 : w0.cell? ⟨w.heap.size, 1, none⟩ = some (.slice o n cap) := (cell_of_row _ _ 1 _ _ _ HX0.out).trans rfl
  have f2 : w0.cell? ⟨w.heap.size, 2, none⟩ = some (.slice k m C) := (cell_of_row _ _ 2 _ _ _ HX0.out).trans rfl
  have g0 : w0.cell? ⟨w.heap.size + 1, 0, none⟩ = some (.int .u64 (v2 : Int)) := (cell_of_row _ _ 0 _ _ _ HY0.out).trans rfl
  have g1 : w0.cell? ⟨w.heap.size + 1, 1, none⟩ = some (.slice o2 n2 cap2) := (cell_of_row _ _ 1 _ _ _ HY0.out).trans rfl
  have g2 : w0.cell? ⟨w.heap.size + 1, 2, none⟩ = some (.slice k2 m2 C2) := (cell_of_row _ _ 2 _ _ _ HY0.out).trans rfl
  have K1 := Lib.hid h1
  have K2 := Lib.hid h2
  obtain ⟨b1, hb1⟩ : ∃ b1, decide (v = v2) = b1 := ⟨_, rfl⟩
  have t1 : ((v : Int) == (v2 : Int)) = b1 := by rw [nat_same]; exact hb1
  rw [hb1]
  clear h1 h2
  go_enter Tryz.func14, Tryz.ntmps14
  go_upto_region 1 with fail
  rw [← hw0]
  clear hw0
  cases b1 with
  | false =>
    clear hb1
    go_wp2_with fail
    go_ret
    exact ⟨rfl, HB0.out⟩
  | true =>
    have hb1' : v = v2 := of_decide_eq_true hb1
    clear hb1
    cases p with
    | false =>
      go_wp2_with fail
      refine (K1.out _ HB0.out).mono ?_
      rintro e w1 ⟨rfl, hb⟩
      have HX1 := Lib.hid (Bk.later HX0.out hb)
      have HY1 := Lib.hid (Bk.later HY0.out hb)
      have HB1 := Lib.hid (HB0.out.trans (hb.mono HB0.out.size))
      clear hb f0 f1 f2 g0 g1 g2
      obtain ⟨f0, f1, f2⟩ := bk3 HX1.out
      obtain ⟨g0, g1, g2⟩ := bk3 HY1.out
      go_wp2_with fail
      go_ret
      exact ⟨rfl, HB1.out⟩
    | true =>
      go_wp2_with fail
      refine (K1.out _ HB0.out).mono ?_
      rintro e w1 ⟨rfl, hb⟩
      have HX1 := Lib.hid (Bk.later HX0.out hb)
      have HY1 := Lib.hid (Bk.later HY0.out hb)
      have HB1 := Lib.hid (HB0.out.trans (hb.mono HB0.out.size))
      clear hb f0 f1 f2 g0 g1 g2
      obtain ⟨f0, f1, f2⟩ := bk3 HX1.out
      obtain ⟨g0, g1, g2⟩ := bk3 HY1.out
      go_wp2_with fail
      refine (K2.out _ HB1.out).mono ?_
      rintro e w2 ⟨rfl, hb⟩
      have HX2 := Lib.hid (Bk.later HX1.out hb)
      have HY2 := Lib.hid (Bk.later HY1.out hb)
      have HB2 := Lib.hid (HB1.out.trans (hb.mono HB1.out.size))
      clear hb f0 f1 f2 g0 g1 g2
      obtain ⟨f0, f1, f2⟩ := bk3 HX2.out
      obtain ⟨g0, g1, g2⟩ := bk3 HY2.out
      go_wp2_with fail
      go_ret
      exact ⟨rfl, HB2.out⟩
theorem same_any {w : World} {c0 c1 c2 d0 d1 d2 : Value} {a b : Co} (ha : CoIn w c0 c1 c2 a) (hb : CoIn w d0 d1 d2 b) (hl : a.l.length ≤ 1000000) (hc : a.c.length ≤ 1000000) (hr : ∀ x ∈ a.l, x.r.length ≤ 1000000) (he : ∀ x ∈ a.c, x.e.length ≤ 1000000) :
    Calls Tryz.prog 14 #[.agg #[c0, c1, c2], .agg #[d0, d1, d2]] w (TrP (decide (a = b)) w) := by
  obtain ⟨rfl, _, hL, hC⟩ := ha
  obtain ⟨rfl, _, hL', hC'⟩ := hb
  obtain ⟨o, cap, o2, cap2, rfl, rfl, K1⟩ := ls_eq hL hL' hl hr
  obtain ⟨k, C, k2, C2, rfl, rfl, K2⟩ := cl_eq hC hC' hc he
  have key := same_walk a.v b.v o o2 k k2 _ cap _ cap2 _ C _ C2 _ _ w K1 K2
  rw [show decide (a = b) = (decide (a.v = b.v) && decide (a.l = b.l) && decide (a.c = b.c)) by
    obtain ⟨_, _, _⟩ := a
    obtain ⟨_, _, _⟩ := b
    rw [Bool.eq_iff_iff]; simp [and_assoc]]
  exact key
end Go.Proofs.YtjfjliobencppaaGreatDoor.Cf
