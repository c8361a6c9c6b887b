/- Sessions: Tick.; Sessions: Take, where no offer comes of it. -/
import Derived.Test.YtdojepkmjifoeaaJ44
set_option linter.unusedVariables false
set_option linter.unusedSimpArgs false
namespace Go.Proofs.Ytdojepkmjifoeaa
open Go.RowKit

set_option maxRecDepth 100000 in
set_option maxHeartbeats 8000000 in
theorem tick_not (s : Ss) (now : Nat) (hs : s.ok) (ho : s.o = true ∨ now < s.x) (w : World) : Calls Try.prog 13 #[s.val, .int .u64 (now : Int)] w fun z w' => z = .returned (.tuple #[s.val, .string ⟨#[]⟩]) ∧ Below w.heap.size w w' := by
  by_cases h1 : s.o = true
  · have K30 := Lib.hid (fun w => own_any s hs.r w)
    obtain ⟨e, v, n, x, r, o, b, c, t⟩ := s
    simp only at h1
    subst h1
    unfold Ss.val at K30 ⊢
    simp only at K30 ⊢
    obtain ⟨w0, hw0⟩ : ∃ w0, w0 = ((w.alloc (.cells #[.int .u64 (e : Int), .int .u64 (v : Int), .int .u64 (n : Int), .int .u64 (x : Int), .string r, .bool true, .int .u64 (b : Int), .int .u64 (c : Int), .int .i64 t] 39)).alloc (.cells #[.int .u64 0, .int .u64 0, .int .u64 0, .int .u64 0, .string ⟨#[]⟩, .bool false, .int .u64 0, .int .u64 0, .int .i64 0] 39)) := ⟨_, rfl⟩
    have HB0 := Lib.hid (show Below w.heap.size w w0 by rw [hw0]; exact Bk.bt (alloc_below _ _))
    have HN0 := Lib.hid (show N9 w0 w.heap.size (.int .u64 (e : Int)) (.int .u64 (v : Int)) (.int .u64 (n : Int)) (.int .u64 (x : Int)) (.string r) (.bool true) (.int .u64 (b : Int)) (.int .u64 (c : Int)) (.int .i64 t) by rw [hw0]; exact (N9.new _ _ _ _ _ _ _ _ _ _).later (alloc_below _ _))
    have HM0 := Lib.hid (show N9 w0 (w.heap.size + 1) (.int .u64 0) (.int .u64 0) (.int .u64 0) (.int .u64 0) (.string ⟨#[]⟩) (.bool false) (.int .u64 0) (.int .u64 0) (.int .i64 0) by
      rw [hw0]; have h := N9.new (w.alloc (.cells #[.int .u64 (e : Int), .int .u64 (v : Int), .int .u64 (n : Int), .int .u64 (x : Int), .string r, .bool true, .int .u64 (b : Int), .int .u64 (c : Int), .int .i64 t] 39)) (.int .u64 0) (.int .u64 0) (.int .u64 0) (.int .u64 0) (.string ⟨#[]⟩) (.bool false) (.int .u64 0) (.int .u64 0) (.int .i64 0)
      have e : (w.alloc (.cells #[.int .u64 (e : Int), .int .u64 (v : Int), .int .u64 (n : Int), .int .u64 (x : Int), .string r, .bool true, .int .u64 (b : Int), .int .u64 (c : Int), .int .i64 t] 39)).heap.size = w.heap.size + 1 := by simp
      rw [e] at h; exact h)
    clear hs ho
    go_enter Try.func13, Try.ntmps13
    go_upto_region 2 with (first
      | (rw [← hw0]; clear hw0; obtain ⟨⟨c0, c1, c2, c3, c4, c5, c6, c7, c8⟩, f0, f1, f2, f3, f4, f5, f6, f7, f8⟩ := nine HN0.out)
      | (go_at_call 30; ((with_reducible refine (K30.out _).mono ?_); rintro z w1 ⟨rfl, hb1⟩; have HB1 := Lib.hid (HB0.out.trans (hb1.mono HB0.out.size)); have HN1 := Lib.hid (HN0.out.later hb1); have HM1 := Lib.hid (HM0.out.later hb1); obtain ⟨⟨c0, c1, c2, c3, c4, c5, c6, c7, c8⟩, f0, f1, f2, f3, f4, f5, f6, f7, f8⟩ := nine HN1.out; clear hb1)))
    have HN2 := Lib.hid (HN1.out.put (.int .u64 (e : Int)) (.int .u64 (v : Int)) (.int .u64 (n : Int)) (.int .u64 (x : Int)) (.string r) (.bool true) (.int .u64 (b : Int)) (.int .u64 (c : Int)) (.int .i64 t))
    have HM2 := Lib.hid (HM1.out.putted (g := w.heap.size) (by omega) (.int .u64 (e : Int)) (.int .u64 (v : Int)) (.int .u64 (n : Int)) (.int .u64 (x : Int)) (.string r) (.bool true) (.int .u64 (b : Int)) (.int .u64 (c : Int)) (.int .i64 t))
    have HB2 := Lib.hid (set9 (Nat.le_refl _) HB1.out (.int .u64 (e : Int)) (.int .u64 (v : Int)) (.int .u64 (n : Int)) (.int .u64 (x : Int)) (.string r) (.bool true) (.int .u64 (b : Int)) (.int .u64 (c : Int)) (.int .i64 t))
    generalize (((((((((w1.setCell ⟨w.heap.size, 0, none⟩ (.int .u64 (e : Int))).setCell ⟨w.heap.size, 1, none⟩ (.int .u64 (v : Int))).setCell ⟨w.heap.size, 2, none⟩ (.int .u64 (n : Int))).setCell ⟨w.heap.size, 3, none⟩ (.int .u64 (x : Int))).setCell ⟨w.heap.size, 4, none⟩ (.string r)).setCell ⟨w.heap.size, 5, none⟩ (.bool true)).setCell ⟨w.heap.size, 6, none⟩ (.int .u64 (b : Int))).setCell ⟨w.heap.size, 7, none⟩ (.int .u64 (c : Int))).setCell ⟨w.heap.size, 8, none⟩ (.int .i64 t)) = w2 at *
    clear c0 c1 c2 c3 c4 c5 c6 c7 c8 f0 f1 f2 f3 f4 f5 f6 f7 f8
    obtain ⟨⟨c0, c1, c2, c3, c4, c5, c6, c7, c8⟩, f0, f1, f2, f3, f4, f5, f6, f7, f8⟩ := nine HN2.out
    obtain ⟨⟨d0, d1, d2, d3, d4, d5, d6, d7, d8⟩, g0, g1, g2, g3, g4, g5, g6, g7, g8⟩ := nine HM2.out
    go_wp2
    all_goals
      refine bodyPost_ret (v := .tuple #[.agg #[.int .u64 (e : Int), .int .u64 (v : Int), .int .u64 (n : Int), .int .u64 (x : Int), .string r, .bool true, .int .u64 (b : Int), .int .u64 (c : Int), .int .i64 t], .string ⟨#[]⟩]) (by simp [results, Try.results13, go_sem, *]) rfl ⟨rfl, ?_⟩
      exact set9 (by omega) HB2.out _ _ _ _ _ _ _ _ _
  · have h2 : now < s.x := ho.resolve_left h1
    have h3 : s.o = false := by simpa using h1
    clear ho h1
    have K30 := Lib.hid (fun w => own_any s hs.r w)
    obtain ⟨e, v, n, x, r, o, b, c, t⟩ := s
    simp only at h3 h2
    subst h3
    have t1 : (now : Int) < (x : Int) := by omega
    unfold Ss.val at K30 ⊢
    simp only at K30 ⊢
    obtain ⟨w0, hw0⟩ : ∃ w0, w0 = ((w.alloc (.cells #[.int .u64 (e : Int), .int .u64 (v : Int), .int .u64 (n : Int), .int .u64 (x : Int), .string r, .bool false, .int .u64 (b : Int), .int .u64 (c : Int), .int .i64 t] 39)).alloc (.cells #[.int .u64 0, .int .u64 0, .int .u64 0, .int .u64 0, .string ⟨#[]⟩, .bool false, .int .u64 0, .int .u64 0, .int .i64 0] 39)) := ⟨_, rfl⟩
    have HB0 := Lib.hid (show Below w.heap.size w w0 by rw [hw0]; exact Bk.bt (alloc_below _ _))
    have HN0 := Lib.hid (show N9 w0 w.heap.size (.int .u64 (e : Int)) (.int .u64 (v : Int)) (.int .u64 (n : Int)) (.int .u64 (x : Int)) (.string r) (.bool false) (.int .u64 (b : Int)) (.int .u64 (c : Int)) (.int .i64 t) by rw [hw0]; exact (N9.new _ _ _ _ _ _ _ _ _ _).later (alloc_below _ _))
    have HM0 := Lib.hid (show N9 w0 (w.heap.size + 1) (.int .u64 0) (.int .u64 0) (.int .u64 0) (.int .u64 0) (.string ⟨#[]⟩) (.bool false) (.int .u64 0) (.int .u64 0) (.int .i64 0) by
      rw [hw0]; have h := N9.new (w.alloc (.cells #[.int .u64 (e : Int), .int .u64 (v : Int), .int .u64 (n : Int), .int .u64 (x : Int), .string r, .bool false, .int .u64 (b : Int), .int .u64 (c : Int), .int .i64 t] 39)) (.int .u64 0) (.int .u64 0) (.int .u64 0) (.int .u64 0) (.string ⟨#[]⟩) (.bool false) (.int .u64 0) (.int .u64 0) (.int .i64 0)
      have e : (w.alloc (.cells #[.int .u64 (e : Int), .int .u64 (v : Int), .int .u64 (n : Int), .int .u64 (x : Int), .string r, .bool false, .int .u64 (b : Int), .int .u64 (c : Int), .int .i64 t] 39)).heap.size = w.heap.size + 1 := by simp
      rw [e] at h; exact h)
    clear hs h2
    go_enter Try.func13, Try.ntmps13
    go_upto_region 2 with (first
      | (rw [← hw0]; clear hw0; obtain ⟨⟨c0, c1, c2, c3, c4, c5, c6, c7, c8⟩, f0, f1, f2, f3, f4, f5, f6, f7, f8⟩ := nine HN0.out)
      | (go_at_call 30; ((with_reducible refine (K30.out _).mono ?_); rintro z w1 ⟨rfl, hb1⟩; have HB1 := Lib.hid (HB0.out.trans (hb1.mono HB0.out.size)); have HN1 := Lib.hid (HN0.out.later hb1); have HM1 := Lib.hid (HM0.out.later hb1); obtain ⟨⟨c0, c1, c2, c3, c4, c5, c6, c7, c8⟩, f0, f1, f2, f3, f4, f5, f6, f7, f8⟩ := nine HN1.out; clear hb1)))
    have HN2 := Lib.hid (HN1.out.put (.int .u64 (e : Int)) (.int .u64 (v : Int)) (.int .u64 (n : Int)) (.int .u64 (x : Int)) (.string r) (.bool false) (.int .u64 (b : Int)) (.int .u64 (c : Int)) (.int .i64 t))
    have HM2 := Lib.hid (HM1.out.putted (g := w.heap.size) (by omega) (.int .u64 (e : Int)) (.int .u64 (v : Int)) (.int .u64 (n : Int)) (.int .u64 (x : Int)) (.string r) (.bool false) (.int .u64 (b : Int)) (.int .u64 (c : Int)) (.int .i64 t))
    have HB2 := Lib.hid (set9 (Nat.le_refl _) HB1.out (.int .u64 (e : Int)) (.int .u64 (v : Int)) (.int .u64 (n : Int)) (.int .u64 (x : Int)) (.string r) (.bool false) (.int .u64 (b : Int)) (.int .u64 (c : Int)) (.int .i64 t))
    generalize (((((((((w1.setCell ⟨w.heap.size, 0, none⟩ (.int .u64 (e : Int))).setCell ⟨w.heap.size, 1, none⟩ (.int .u64 (v : Int))).setCell ⟨w.heap.size, 2, none⟩ (.int .u64 (n : Int))).setCell ⟨w.heap.size, 3, none⟩ (.int .u64 (x : Int))).setCell ⟨w.heap.size, 4, none⟩ (.string r)).setCell ⟨w.heap.size, 5, none⟩ (.bool false)).setCell ⟨w.heap.size, 6, none⟩ (.int .u64 (b : Int))).setCell ⟨w.heap.size, 7, none⟩ (.int .u64 (c : Int))).setCell ⟨w.heap.size, 8, none⟩ (.int .i64 t)) = w2 at *
    clear c0 c1 c2 c3 c4 c5 c6 c7 c8 f0 f1 f2 f3 f4 f5 f6 f7 f8
    obtain ⟨⟨c0, c1, c2, c3, c4, c5, c6, c7, c8⟩, f0, f1, f2, f3, f4, f5, f6, f7, f8⟩ := nine HN2.out
    obtain ⟨⟨d0, d1, d2, d3, d4, d5, d6, d7, d8⟩, g0, g1, g2, g3, g4, g5, g6, g7, g8⟩ := nine HM2.out
    go_wp2
    all_goals
      refine bodyPost_ret (v := .tuple #[.agg #[.int .u64 (e : Int), .int .u64 (v : Int), .int .u64 (n : Int), .int .u64 (x : Int), .string r, .bool false, .int .u64 (b : Int), .int .u64 (c : Int), .int .i64 t], .string ⟨#[]⟩]) (by simp [results, Try.results13, go_sem, *]) rfl ⟨rfl, ?_⟩
      exact set9 (by omega) HB2.out _ _ _ _ _ _ _ _ _
set_option maxRecDepth 100000 in
set_option maxHeartbeats 16000000 in
theorem tick_ok (s : Ss) (now : Nat) (hs : s.ok) (ho : s.o = false) (hx : ¬ now < s.x) (M : ByteArray) (hM : msgV 1 (adN s.e 1) ⟨#[]⟩ [s.v] = M) (w : World) : Calls Try.prog 13 #[s.val, .int .u64 (now : Int)] w fun z w' => z = .returned (.tuple #[({ s with o := true, e := adN s.e 1, n := 0, r := ⟨#[]⟩ } : Ss).val, .string M]) ∧ Below w.heap.size w w' := by
  have K30 := Lib.hid (fun w => own_any s hs.r w)
  obtain ⟨e, v, n, x, r, o, b, c, t⟩ := s
  simp only at ho hx hM
  subst ho
  have t1 : decide (now < x) = false := by rw [decide_eq_false_iff_not]; exact hx
  have K31 : Hid (∀ w, Calls Try.prog 31 #[.int .u64 (e : Int), .int .u64 1] w fun z w' => z = .returned (.int .u64 (adN e 1 : Nat)) ∧ w = w') := Lib.hid (fun w => wadd_any e 1 hs.e (by omega) w)
  have hz : adN e 1 ≤ 18446744073709551615 := by unfold adN; omega
  have hv := hs.v
  unfold Ss.val at K30 ⊢
  simp only at K30 ⊢
  obtain ⟨w0, hw0⟩ : ∃ w0, w0 = ((w.alloc (.cells #[.int .u64 (e : Int), .int .u64 (v : Int), .int .u64 (n : Int), .int .u64 (x : Int), .string r, .bool false, .int .u64 (b : Int), .int .u64 (c : Int), .int .i64 t] 39)).alloc (.cells #[.int .u64 0, .int .u64 0, .int .u64 0, .int .u64 0, .string ⟨#[]⟩, .bool false, .int .u64 0, .int .u64 0, .int .i64 0] 39)) := ⟨_, rfl⟩
  have HB0 := Lib.hid (show Below w.heap.size w w0 by rw [hw0]; exact Bk.bt (alloc_below _ _))
  have HN0 := Lib.hid (show N9 w0 w.heap.size (.int .u64 (e : Int)) (.int .u64 (v : Int)) (.int .u64 (n : Int)) (.int .u64 (x : Int)) (.string r) (.bool false) (.int .u64 (b : Int)) (.int .u64 (c : Int)) (.int .i64 t) by rw [hw0]; exact (N9.new _ _ _ _ _ _ _ _ _ _).later (alloc_below _ _))
  have HM0 := Lib.hid (show N9 w0 (w.heap.size + 1) (.int .u64 0) (.int .u64 0) (.int .u64 0) (.int .u64 0) (.string ⟨#[]⟩) (.bool false) (.int .u64 0) (.int .u64 0) (.int .i64 0) by
    rw [hw0]; have h := N9.new (w.alloc (.cells #[.int .u64 (e : Int), .int .u64 (v : Int), .int .u64 (n : Int), .int .u64 (x : Int), .string r, .bool false, .int .u64 (b : Int), .int .u64 (c : Int), .int .i64 t] 39)) (.int .u64 0) (.int .u64 0) (.int .u64 0) (.int .u64 0) (.string ⟨#[]⟩) (.bool false) (.int .u64 0) (.int .u64 0) (.int .i64 0)
    have e : (w.alloc (.cells #[.int .u64 (e : Int), .int .u64 (v : Int), .int .u64 (n : Int), .int .u64 (x : Int), .string r, .bool false, .int .u64 (b : Int), .int .u64 (c : Int), .int .i64 t] 39)).heap.size = w.heap.size + 1 := by simp
    rw [e] at h; exact h)
  generalize adN e 1 = z at *
  have K7 : Hid (∀ (W : World) (g : Nat), g = W.heap.size → Calls Try.prog 7 #[.int .i64 1, .int .u64 (z : Int), .string ⟨#[]⟩, .slice (some ⟨g, 0, none⟩) 1 1] (W.alloc (.cells #[.int .u64 (v : Int)] 22)) fun ze w' => ze = .returned (.string M) ∧ Below (W.alloc (.cells #[.int .u64 (v : Int)] 22)).heap.size (W.alloc (.cells #[.int .u64 (v : Int)] 22)) w') := Lib.hid (fun W g hg => by
    subst hg
    have h := message_any 1 z ⟨#[]⟩ [v] (some ⟨W.heap.size, 0, none⟩) 1 W.heap.size 0 (by simp [ByteArray.size]) hz (W.alloc (.cells #[.int .u64 (v : Int)] 22)) (fun _ => ⟨rfl, alloc_lt _ _⟩) (ns_new W [v] (by intro q hq; simp at hq; subst hq; exact hv))
    rw [hM] at h
    exact h)
  clear hs hx hM hz hv
  go_enter Try.func13, Try.ntmps13
  go_upto_region 2 with (first
    | (rw [← hw0]; clear hw0; obtain ⟨⟨c0, c1, c2, c3, c4, c5, c6, c7, c8⟩, f0, f1, f2, f3, f4, f5, f6, f7, f8⟩ := nine HN0.out)
    | (go_at_call 30; ((with_reducible refine (K30.out _).mono ?_); rintro z w1 ⟨rfl, hb1⟩; have HB1 := Lib.hid (HB0.out.trans (hb1.mono HB0.out.size)); have HN1 := Lib.hid (HN0.out.later hb1); have HM1 := Lib.hid (HM0.out.later hb1); obtain ⟨⟨c0, c1, c2, c3, c4, c5, c6, c7, c8⟩, f0, f1, f2, f3, f4, f5, f6, f7, f8⟩ := nine HN1.out; clear hb1)))
  have HN2 := Lib.hid (HN1.out.put (.int .u64 (e : Int)) (.int .u64 (v : Int)) (.int .u64 (n : Int)) (.int .u64 (x : Int)) (.string r) (.bool false) (.int .u64 (b : Int)) (.int .u64 (c : Int)) (.int .i64 t))
  have HM2 := Lib.hid (HM1.out.putted (g := w.heap.size) (by omega) (.int .u64 (e : Int)) (.int .u64 (v : Int)) (.int .u64 (n : Int)) (.int .u64 (x : Int)) (.string r) (.bool false) (.int .u64 (b : Int)) (.int .u64 (c : Int)) (.int .i64 t))
  have HB2 := Lib.hid (set9 (Nat.le_refl _) HB1.out (.int .u64 (e : Int)) (.int .u64 (v : Int)) (.int .u64 (n : Int)) (.int .u64 (x : Int)) (.string r) (.bool false) (.int .u64 (b : Int)) (.int .u64 (c : Int)) (.int .i64 t))
  generalize (((((((((w1.setCell ⟨w.heap.size, 0, none⟩ (.int .u64 (e : Int))).setCell ⟨w.heap.size, 1, none⟩ (.int .u64 (v : Int))).setCell ⟨w.heap.size, 2, none⟩ (.int .u64 (n : Int))).setCell ⟨w.heap.size, 3, none⟩ (.int .u64 (x : Int))).setCell ⟨w.heap.size, 4, none⟩ (.string r)).setCell ⟨w.heap.size, 5, none⟩ (.bool false)).setCell ⟨w.heap.size, 6, none⟩ (.int .u64 (b : Int))).setCell ⟨w.heap.size, 7, none⟩ (.int .u64 (c : Int))).setCell ⟨w.heap.size, 8, none⟩ (.int .i64 t)) = w2 at *
  clear c0 c1 c2 c3 c4 c5 c6 c7 c8 f0 f1 f2 f3 f4 f5 f6 f7 f8
  obtain ⟨⟨c0, c1, c2, c3, c4, c5, c6, c7, c8⟩, f0, f1, f2, f3, f4, f5, f6, f7, f8⟩ := nine HN2.out
  obtain ⟨⟨d0, d1, d2, d3, d4, d5, d6, d7, d8⟩, g0, g1, g2, g3, g4, g5, g6, g7, g8⟩ := nine HM2.out
  go_upto_region 5 with (first
    | (go_at_call 31; ((with_reducible refine (K31.out _).mono ?_); rintro ze we ⟨rfl, rfl⟩)))
  have HN3 : Hid (N9 ((((w2.setCell ⟨w.heap.size, 5, none⟩ (.bool true)).setCell ⟨w.heap.size, 0, none⟩ (.int .u64 (z : Int))).setCell ⟨w.heap.size, 2, none⟩ (.int .u64 0)).setCell ⟨w.heap.size, 4, none⟩ (.string ⟨#[]⟩)) w.heap.size (.int .u64 (z : Int)) (.int .u64 (v : Int)) (.int .u64 0) (.int .u64 (x : Int)) (.string ⟨#[]⟩) (.bool true) (.int .u64 (b : Int)) (.int .u64 (c : Int)) (.int .i64 t)) := Lib.hid (((((HN2.out).set5 _).set0 _).set2 _).set4 _)
  have HM3 : Hid (N9 ((((w2.setCell ⟨w.heap.size, 5, none⟩ (.bool true)).setCell ⟨w.heap.size, 0, none⟩ (.int .u64 (z : Int))).setCell ⟨w.heap.size, 2, none⟩ (.int .u64 0)).setCell ⟨w.heap.size, 4, none⟩ (.string ⟨#[]⟩)) (w.heap.size + 1) (.int .u64 0) (.int .u64 0) (.int .u64 0) (.int .u64 0) (.string ⟨#[]⟩) (.bool false) (.int .u64 0) (.int .u64 0) (.int .i64 0)) := Lib.hid (((((HM2.out).set_other (g := w.heap.size) (by omega) _ _).set_other (g := w.heap.size) (by omega) _ _).set_other (g := w.heap.size) (by omega) _ _).set_other (g := w.heap.size) (by omega) _ _)
  have HB3 : Hid (Below w.heap.size w ((((w2.setCell ⟨w.heap.size, 5, none⟩ (.bool true)).setCell ⟨w.heap.size, 0, none⟩ (.int .u64 (z : Int))).setCell ⟨w.heap.size, 2, none⟩ (.int .u64 0)).setCell ⟨w.heap.size, 4, none⟩ (.string ⟨#[]⟩))) := Lib.hid (((((HB2.out).setCell (Nat.le_refl _) _).setCell (Nat.le_refl _) _).setCell (Nat.le_refl _) _).setCell (Nat.le_refl _) _)
  generalize ((((w2.setCell ⟨w.heap.size, 5, none⟩ (.bool true)).setCell ⟨w.heap.size, 0, none⟩ (.int .u64 (z : Int))).setCell ⟨w.heap.size, 2, none⟩ (.int .u64 0)).setCell ⟨w.heap.size, 4, none⟩ (.string ⟨#[]⟩)) = w3 at *
  clear c0 c1 c2 c3 c4 c5 c6 c7 c8 f0 f1 f2 f3 f4 f5 f6 f7 f8
  clear d0 d1 d2 d3 d4 d5 d6 d7 d8 g0 g1 g2 g3 g4 g5 g6 g7 g8
  have mkS : Hid (∀ wz, N9 wz (w.heap.size) (.int .u64 (z : Int)) (.int .u64 (v : Int)) (.int .u64 0) (.int .u64 (x : Int)) (.string ⟨#[]⟩) (.bool true) (.int .u64 (b : Int)) (.int .u64 (c : Int)) (.int .i64 t) → Below w.heap.size w wz → (wz.cell? ⟨w.heap.size, 0, none⟩ = some (.int .u64 (z : Int)) ∧ wz.cell? ⟨w.heap.size, 1, none⟩ = some (.int .u64 (v : Int)) ∧ wz.rangeAt (w.heap.size) 0 [.int .u64 (z : Int), .int .u64 (v : Int), .int .u64 0, .int .u64 (x : Int), .string ⟨#[]⟩, .bool true, .int .u64 (b : Int), .int .u64 (c : Int), .int .i64 t] ∧ Hid (N9 wz (w.heap.size) (.int .u64 (z : Int)) (.int .u64 (v : Int)) (.int .u64 0) (.int .u64 (x : Int)) (.string ⟨#[]⟩) (.bool true) (.int .u64 (b : Int)) (.int .u64 (c : Int)) (.int .i64 t) ∧ Below w.heap.size w wz))) := Lib.hid (fun wz h hb => ⟨(nine h).1.1, (nine h).1.2.1, h.range, Lib.hid ⟨h, hb⟩⟩)
  have HY0 := Lib.hid (show N9 w3.drew (w.heap.size + 1) (.int .u64 0) (.int .u64 0) (.int .u64 0) (.int .u64 0) (.string ⟨#[]⟩) (.bool false) (.int .u64 0) (.int .u64 0) (.int .i64 0) from HM3.out)
  refine wp_region_held_drew (S := (fun wz => wz.cell? ⟨w.heap.size, 0, none⟩ = some (.int .u64 (z : Int)) ∧ wz.cell? ⟨w.heap.size, 1, none⟩ = some (.int .u64 (v : Int)) ∧ wz.rangeAt (w.heap.size) 0 [.int .u64 (z : Int), .int .u64 (v : Int), .int .u64 0, .int .u64 (x : Int), .string ⟨#[]⟩, .bool true, .int .u64 (b : Int), .int .u64 (c : Int), .int .i64 t] ∧ Hid (N9 wz (w.heap.size) (.int .u64 (z : Int)) (.int .u64 (v : Int)) (.int .u64 0) (.int .u64 (x : Int)) (.string ⟨#[]⟩) (.bool true) (.int .u64 (b : Int)) (.int .u64 (c : Int)) (.int .i64 t) ∧ Below w.heap.size w wz))) (by kernel_rfl) (mkS.out _ HN3.out HB3.out.drew) (fun hHeld => ?_)
  generalize w3.drew = wc0 at *
  refine wpAnyH_take (i := 0) (oi := ⟨some 24, _, _, _, _, _⟩) (v := .agg ([.int .u64 (z : Int), .int .u64 (v : Int), .int .u64 0, .int .u64 (x : Int), .string ⟨#[]⟩, .bool true, .int .u64 (b : Int), .int .u64 (c : Int), .int .i64 t]).toArray) rfl (by kernel_rfl) (by kernel_rfl) (by kernel_rfl) (fun _ _ _ h => h) (yieldsIf_load_mid (by rfl) 39 (.tmp 2) rfl (w.heap.size) (0) rfl ([.int .u64 (z : Int), .int .u64 (v : Int), .int .u64 0, .int .u64 (x : Int), .string ⟨#[]⟩, .bool true, .int .u64 (b : Int), .int .u64 (c : Int), .int .i64 t]) _ (fun w hSw => hSw.2.2.1) Try.underlying39 rfl info39) hHeld ?_
  try simp only [Act.put, List.setIfInBounds_toArray, List.set_cons_zero, List.set_cons_succ]
  refine wpAnyH_take (i := 1) (oi := ⟨some 25, _, _, _, _, _⟩) (v := ?_) rfl (by kernel_rfl) (by kernel_rfl) (by kernel_rfl) (fun _ _ _ h => h) (Or.inl ⟨by rfl, by (intro w hSw; (try dsimp only at hSw); go_simp; try with_reducible rfl)⟩) hHeld ?_
  try simp only [Act.put, List.setIfInBounds_toArray, List.set_cons_zero, List.set_cons_succ]
  refine wpAnyH_take (i := 2) (oi := ⟨some 26, _, _, _, _, _⟩) (v := ?_) rfl (by kernel_rfl) (by kernel_rfl) (by kernel_rfl) (fun _ _ _ h => h) (Or.inl ⟨by rfl, by (intro w hSw; (try dsimp only at hSw); go_simp; try with_reducible rfl)⟩) hHeld ?_
  try simp only [Act.put, List.setIfInBounds_toArray, List.set_cons_zero, List.set_cons_succ]
  refine wpAnyH_take (i := 3) (oi := ⟨some 27, _, _, _, _, _⟩) (v := ?_) rfl (by kernel_rfl) (by kernel_rfl) (by kernel_rfl) (fun _ _ _ h => h) (Or.inl ⟨by rfl, by (intro w hSw; (try dsimp only at hSw); go_simp; try with_reducible rfl)⟩) hHeld ?_
  try simp only [Act.put, List.setIfInBounds_toArray, List.set_cons_zero, List.set_cons_succ]
  refine wpAnyH_take (i := 4) (oi := ⟨some 28, _, _, _, _, _⟩) (v := ?_) rfl (by kernel_rfl) (by kernel_rfl) (by kernel_rfl) (fun _ _ _ h => h) (Or.inl ⟨by rfl, by (intro w hSw; (try dsimp only at hSw); go_simp; try with_reducible rfl)⟩) hHeld ?_
  try simp only [Act.put, List.setIfInBounds_toArray, List.set_cons_zero, List.set_cons_succ]
  refine wpAnyH_ready (rs := [5]) (by kernel_rfl) (by simp) ?_
  refine AllReadyH.cons (o := ⟨some 29, _, _, _, _, _⟩) rfl (fun K hK => ?_) ?_
  · go_simp
    have HY1 := Lib.hid (HY0.out.later (alloc_below wc0 (.cells #[.int .u64 (v : Int)] 22)))
    refine hK.out _ _ (mkS.out _ (hHeld.2.2.2.out.1.later (alloc_below _ _)) (hHeld.2.2.2.out.2.trans ((alloc_below _ _).mono hHeld.2.2.2.out.2.size))) (fun hHeld2 => ?_)
    clear hK K hHeld
    have hHeld := hHeld2
    clear hHeld2
    try simp only [Act.put, List.setIfInBounds_toArray, List.set_cons_zero, List.set_cons_succ]
    refine wpAnyH_ready (rs := [6]) (by kernel_rfl) (by simp) ?_
    refine AllReadyH.cons (o := ⟨some 30, _, _, _, _, _⟩) rfl (fun K hK => ?_) ?_
    · go_simp
      refine (K7.out wc0 _ rfl).mono ?_
      rintro ze wc2 ⟨rfl, hbn⟩
      try go_simp
      have HY2 := Lib.hid (HY1.out.later hbn)
      refine hK.out _ _ (mkS.out _ (hHeld.2.2.2.out.1.later hbn) (hHeld.2.2.2.out.2.trans (hbn.mono hHeld.2.2.2.out.2.size))) (fun hHeld2 => ?_)
      clear hK K hHeld hbn
      have hHeld := hHeld2
      clear hHeld2
      try simp only [Act.put, List.setIfInBounds_toArray, List.set_cons_zero, List.set_cons_succ]
      refine wpAnyH_ready (rs := [7]) (by kernel_rfl) (by simp) ?_
      refine AllReadyH.cons (o := ⟨none, _, _, _, _, _⟩) rfl (fun K hK => ?_) ?_
      · obtain ⟨⟨d0, d1, d2, d3, d4, d5, d6, d7, d8⟩, g0, g1, g2, g3, g4, g5, g6, g7, g8⟩ := nine HY2.out
        go_simp
        have HY3 := Lib.hid (HY2.out.put (.int .u64 (z : Int)) (.int .u64 (v : Int)) (.int .u64 0) (.int .u64 (x : Int)) (.string ⟨#[]⟩) (.bool true) (.int .u64 (b : Int)) (.int .u64 (c : Int)) (.int .i64 t))
        refine hK.out _ _ (mkS.out _ (hHeld.2.2.2.out.1.putted (g := w.heap.size + 1) (by omega) _ _ _ _ _ _ _ _ _) (set9 (by omega) hHeld.2.2.2.out.2 _ _ _ _ _ _ _ _ _)) (fun hHeld2 => ?_)
        clear hK K hHeld
        have hHeld := hHeld2
        clear hHeld2
        clear d0 d1 d2 d3 d4 d5 d6 d7 d8 g0 g1 g2 g3 g4 g5 g6 g7 g8
        try simp only [Act.put, List.setIfInBounds_toArray, List.set_cons_zero, List.set_cons_succ]
        generalize (((((((((wc2.setCell ⟨w.heap.size + 1, 0, none⟩ (.int .u64 (z : Int))).setCell ⟨w.heap.size + 1, 1, none⟩ (.int .u64 (v : Int))).setCell ⟨w.heap.size + 1, 2, none⟩ (.int .u64 0)).setCell ⟨w.heap.size + 1, 3, none⟩ (.int .u64 (x : Int))).setCell ⟨w.heap.size + 1, 4, none⟩ (.string ⟨#[]⟩)).setCell ⟨w.heap.size + 1, 5, none⟩ (.bool true)).setCell ⟨w.heap.size + 1, 6, none⟩ (.int .u64 (b : Int))).setCell ⟨w.heap.size + 1, 7, none⟩ (.int .u64 (c : Int))).setCell ⟨w.heap.size + 1, 8, none⟩ (.int .i64 t)) = wc3 at *
        refine wpAnyH_take (i := 8) (oi := ⟨some 5, _, _, _, _, _⟩) (v := ?_) rfl (by kernel_rfl) (by kernel_rfl) (by kernel_rfl) (fun _ _ _ h => h) (Or.inl ⟨by rfl, by (intro w hSw; (try dsimp only at hSw); go_simp; try with_reducible rfl)⟩) hHeld ?_
        try simp only [Act.put, List.setIfInBounds_toArray, List.set_cons_zero, List.set_cons_succ]
        refine wpAnyH_done (by kernel_rfl) ?_ _
        simp only [Exit.then]
        apply_assumption
        obtain ⟨⟨d0, d1, d2, d3, d4, d5, d6, d7, d8⟩, g0, g1, g2, g3, g4, g5, g6, g7, g8⟩ := nine HY3.out
        have HBY := Lib.hid hHeld.2.2.2.out.2
        go_wp2
        refine bodyPost_ret (v := .tuple #[.agg #[.int .u64 (z : Int), .int .u64 (v : Int), .int .u64 0, .int .u64 (x : Int), .string ⟨#[]⟩, .bool true, .int .u64 (b : Int), .int .u64 (c : Int), .int .i64 t], .string M]) (by simp [results, Try.results13, go_sem, *]) rfl ⟨rfl, ?_⟩
        exact HBY.out
      · exact AllReadyH.nil
    · exact AllReadyH.nil
  · exact AllReadyH.nil
end Go.Proofs.Ytdojepkmjifoeaa

namespace Go.Proofs.Ytdojepkmjifoeaa
open Go.RowKit

/-- The frame at the label. -/
def tkF (g : Nat) (R : ByteArray) (C : Int) (u : Nat → Value) : Act := ⟨List.toArray [u 0, u 1, .pointer (some ⟨g, 0, none⟩), u 3, .pointer (some ⟨g + 1, 0, none⟩), .pointer (some ⟨g + 1 + 1, 0, none⟩), u 6, u 7, u 8, .string R, u 10, u 11, u 12, u 13, .int .i64 C, u 15, u 16, u 17, u 18, u 19, u 20, u 21, u 22, u 23, u 24, u 25, u 26, u 27, u 28, u 29, u 30, u 31, u 32, u 33, u 34, u 35, u 36, u 37, u 38, u 39, u 40, u 41, u 42, u 43, u 44, u 45, u 46, u 47, u 48, u 49, u 50, u 51, u 52, u 53, u 54, u 55, u 56, u 57, u 58, u 59, u 60], []⟩
/-- What stands at the label: the session's box, the answers' boxes, the answers told so far. -/
def TkJ (w : World) (s : Ss) (R : ByteArray) (C : Int) (a : Act) (wz : World) : Prop := ∃ (u : Nat → Value) (g : Nat), g = w.heap.size ∧ a = tkF g R C u ∧ N9 wz g (.int .u64 (s.e : Int)) (.int .u64 (s.v : Int)) (.int .u64 (s.n : Int)) (.int .u64 (s.x : Int)) (.string s.r) (.bool s.o) (.int .u64 (s.b : Int)) (.int .u64 (s.c : Int)) (.int .i64 s.t) ∧ N9 wz (g + 1) (.int .u64 0) (.int .u64 0) (.int .u64 0) (.int .u64 0) (.string ⟨#[]⟩) (.bool false) (.int .u64 0) (.int .u64 0) (.int .i64 0) ∧ wz.heap[g + 1 + 1]? = some (.cells #[.int .u64 0, .int .u64 0, .string ⟨#[]⟩] 47 (0, 0)) ∧ Below w.heap.size w wz
theorem TkJ.mk {w wz : World} {s : Ss} {R : ByteArray} {C : Int} {a : Act} (g : Nat) (hg : g = w.heap.size) (ha : a = tkF g R C (fun j => a.tmps.getD j undef)) (h1 : N9 wz g (.int .u64 (s.e : Int)) (.int .u64 (s.v : Int)) (.int .u64 (s.n : Int)) (.int .u64 (s.x : Int)) (.string s.r) (.bool s.o) (.int .u64 (s.b : Int)) (.int .u64 (s.c : Int)) (.int .i64 s.t)) (h2 : N9 wz (g + 1) (.int .u64 0) (.int .u64 0) (.int .u64 0) (.int .u64 0) (.string ⟨#[]⟩) (.bool false) (.int .u64 0) (.int .u64 0) (.int .i64 0)) (h3 : wz.heap[g + 1 + 1]? = some (.cells #[.int .u64 0, .int .u64 0, .string ⟨#[]⟩] 47 (0, 0))) (h4 : Below w.heap.size w wz) : TkJ w s R C a wz := ⟨_, g, hg, ha, h1, h2, h3, h4⟩
theorem put3_other {w : World} {g q : Nat} (hq : q ≠ g) (a0 a1 a2 : Value) : (((w.setCell ⟨g, 0, none⟩ a0).setCell ⟨g, 1, none⟩ a1).setCell ⟨g, 2, none⟩ a2).heap[q]? = w.heap[q]? := by
  rw [heap_setCell_other _ ⟨g, 2, none⟩ q _ hq, heap_setCell_other _ ⟨g, 1, none⟩ q _ hq, heap_setCell_other _ ⟨g, 0, none⟩ q _ hq]
theorem set3 {B : Nat} {w w' : World} {g : Nat} (hg : B ≤ g) (hb : Below B w w') (a0 a1 a2 : Value) : Below B w (((w'.setCell ⟨g, 0, none⟩ a0).setCell ⟨g, 1, none⟩ a1).setCell ⟨g, 2, none⟩ a2) := ((hb.setCell hg _).setCell hg _).setCell hg _
theorem put3 {w : World} {g : Nat} {o0 o1 o2 : Value} {T : TypeId} (h : w.heap[g]? = some (.cells #[o0, o1, o2] T (0, 0))) (a0 a1 a2 : Value) : (((w.setCell ⟨g, 0, none⟩ a0).setCell ⟨g, 1, none⟩ a1).setCell ⟨g, 2, none⟩ a2).heap[g]? = some (.cells #[a0, a1, a2] T (0, 0)) :=
  heap_setCell_same _ g 2 _ T a2 (heap_setCell_same _ g 1 _ T a1 (heap_setCell_same w g 0 _ T a0 h))
set_option maxRecDepth 100000 in
set_option maxHeartbeats 16000000 in
theorem take_bad (s : Ss) (hs : s.ok) (tx : ByteArray) (ht : tx.size ≤ 1000000000) (hm : ¬ okM tx) (w : World) : Calls Try.prog 14 #[s.val, .string tx] w fun z w' => z = .returned (.tuple #[s.val, .agg #[.int .u64 0, .int .u64 0, .string ⟨#[]⟩], .string ⟨#[]⟩, .int .i64 4]) ∧ Below w.heap.size w w' := by
  have K30 := Lib.hid (fun w => own_any s hs.r w)
  obtain ⟨e, v, n, x, r, o, b, c, t⟩ := s
  have K9 := Lib.hid (fun w => read_bad tx ht hm w)
  unfold rdBad at K9
  unfold Ss.val at K30 ⊢
  simp only at K30 ⊢
  obtain ⟨w0, hw0⟩ : ∃ w0, w0 = ((((w.alloc (.cells #[.int .u64 (e : Int), .int .u64 (v : Int), .int .u64 (n : Int), .int .u64 (x : Int), .string r, .bool o, .int .u64 (b : Int), .int .u64 (c : Int), .int .i64 t] 39)).alloc (.cells #[.int .u64 0, .int .u64 0, .int .u64 0, .int .u64 0, .string ⟨#[]⟩, .bool false, .int .u64 0, .int .u64 0, .int .i64 0] 39)).alloc (.cells #[.int .u64 0, .int .u64 0, .string ⟨#[]⟩] 47)).alloc (.cells #[.int .u64 0, .int .u64 0, .string ⟨#[]⟩] 47)) := ⟨_, rfl⟩
  have HB0 := Lib.hid (show Below w.heap.size w w0 by rw [hw0]; exact Bk.bt (Bk.bt (Bk.bt (alloc_below _ _))))
  have HN0 := Lib.hid (show N9 w0 w.heap.size (.int .u64 (e : Int)) (.int .u64 (v : Int)) (.int .u64 (n : Int)) (.int .u64 (x : Int)) (.string r) (.bool o) (.int .u64 (b : Int)) (.int .u64 (c : Int)) (.int .i64 t) by rw [hw0]; exact (((N9.new _ _ _ _ _ _ _ _ _ _).later (alloc_below _ _)).later (alloc_below _ _)).later (alloc_below _ _))
  have HM0 := Lib.hid (show N9 w0 (w.heap.size + 1) (.int .u64 0) (.int .u64 0) (.int .u64 0) (.int .u64 0) (.string ⟨#[]⟩) (.bool false) (.int .u64 0) (.int .u64 0) (.int .i64 0) by
    rw [hw0]; have h := N9.new (w.alloc (.cells #[.int .u64 (e : Int), .int .u64 (v : Int), .int .u64 (n : Int), .int .u64 (x : Int), .string r, .bool o, .int .u64 (b : Int), .int .u64 (c : Int), .int .i64 t] 39)) (.int .u64 0) (.int .u64 0) (.int .u64 0) (.int .u64 0) (.string ⟨#[]⟩) (.bool false) (.int .u64 0) (.int .u64 0) (.int .i64 0)
    have e : (w.alloc (.cells #[.int .u64 (e : Int), .int .u64 (v : Int), .int .u64 (n : Int), .int .u64 (x : Int), .string r, .bool o, .int .u64 (b : Int), .int .u64 (c : Int), .int .i64 t] 39)).heap.size = w.heap.size + 1 := by simp
    rw [e] at h; exact (h.later (alloc_below _ _)).later (alloc_below _ _))
  have HO0 := Lib.hid (show w0.heap[w.heap.size + 1 + 1]? = some (.cells #[.int .u64 0, .int .u64 0, .string ⟨#[]⟩] 47 (0, 0)) by
    rw [hw0]; have h := heap_alloc_new ((w.alloc (.cells #[.int .u64 (e : Int), .int .u64 (v : Int), .int .u64 (n : Int), .int .u64 (x : Int), .string r, .bool o, .int .u64 (b : Int), .int .u64 (c : Int), .int .i64 t] 39)).alloc (.cells #[.int .u64 0, .int .u64 0, .int .u64 0, .int .u64 0, .string ⟨#[]⟩, .bool false, .int .u64 0, .int .u64 0, .int .i64 0] 39)) (.cells #[.int .u64 0, .int .u64 0, .string ⟨#[]⟩] 47)
    have e : ((w.alloc (.cells #[.int .u64 (e : Int), .int .u64 (v : Int), .int .u64 (n : Int), .int .u64 (x : Int), .string r, .bool o, .int .u64 (b : Int), .int .u64 (c : Int), .int .i64 t] 39)).alloc (.cells #[.int .u64 0, .int .u64 0, .int .u64 0, .int .u64 0, .string ⟨#[]⟩, .bool false, .int .u64 0, .int .u64 0, .int .i64 0] 39)).heap.size = w.heap.size + 1 + 1 := by simp
    rw [e] at h
    exact ((alloc_below _ _).block _ (lt_of_heap h)).trans h)
  have HQ0 := Lib.hid (show w0.heap[w.heap.size + 1 + 1 + 1]? = some (.cells #[.int .u64 0, .int .u64 0, .string ⟨#[]⟩] 47 (0, 0)) by
    rw [hw0]; have h := heap_alloc_new (((w.alloc (.cells #[.int .u64 (e : Int), .int .u64 (v : Int), .int .u64 (n : Int), .int .u64 (x : Int), .string r, .bool o, .int .u64 (b : Int), .int .u64 (c : Int), .int .i64 t] 39)).alloc (.cells #[.int .u64 0, .int .u64 0, .int .u64 0, .int .u64 0, .string ⟨#[]⟩, .bool false, .int .u64 0, .int .u64 0, .int .i64 0] 39)).alloc (.cells #[.int .u64 0, .int .u64 0, .string ⟨#[]⟩] 47)) (.cells #[.int .u64 0, .int .u64 0, .string ⟨#[]⟩] 47)
    have e : (((w.alloc (.cells #[.int .u64 (e : Int), .int .u64 (v : Int), .int .u64 (n : Int), .int .u64 (x : Int), .string r, .bool o, .int .u64 (b : Int), .int .u64 (c : Int), .int .i64 t] 39)).alloc (.cells #[.int .u64 0, .int .u64 0, .int .u64 0, .int .u64 0, .string ⟨#[]⟩, .bool false, .int .u64 0, .int .u64 0, .int .i64 0] 39)).alloc (.cells #[.int .u64 0, .int .u64 0, .string ⟨#[]⟩] 47)).heap.size = w.heap.size + 1 + 1 + 1 := by simp
    rw [e] at h
    exact h)
  clear hs ht hm
  go_enter Try.func14, Try.ntmps14
  go_wp2_with fail
  refine wp_scope_jumps 0 (TkJ w ⟨e, v, n, x, r, o, b, c, t⟩ ⟨#[]⟩ 4) (fun _ _ => 0) rfl ?_ ?_
  · go_upto_region 5 with (first
      | (rw [← hw0]; clear hw0; obtain ⟨⟨c0, c1, c2, c3, c4, c5, c6, c7, c8⟩, f0, f1, f2, f3, f4, f5, f6, f7, f8⟩ := nine HN0.out)
      | (go_at_call 9; ((with_reducible refine (K9.out _).mono ?_); rintro z w1 ⟨rfl, hb1⟩; have HB1 := Lib.hid (HB0.out.trans (hb1.mono HB0.out.size)); have HN1 := Lib.hid (HN0.out.later hb1); have HM1 := Lib.hid (HM0.out.later hb1); have HO1 := Lib.hid ((hb1.block _ (lt_of_heap HO0.out)).trans HO0.out); have HQ1 := Lib.hid ((hb1.block _ (lt_of_heap HQ0.out)).trans HQ0.out); clear c0 c1 c2 c3 c4 c5 c6 c7 c8 f0 f1 f2 f3 f4 f5 f6 f7 f8; obtain ⟨⟨c0, c1, c2, c3, c4, c5, c6, c7, c8⟩, f0, f1, f2, f3, f4, f5, f6, f7, f8⟩ := nine HN1.out; clear hb1))
      | (go_at_call 30; ((with_reducible refine (K30.out _).mono ?_); rintro z w2 ⟨rfl, hb2⟩; have HB2 := Lib.hid (HB1.out.trans (hb2.mono HB1.out.size)); have HN2 := Lib.hid (HN1.out.later hb2); have HM2 := Lib.hid (HM1.out.later hb2); have HO2 := Lib.hid ((hb2.block _ (lt_of_heap HO1.out)).trans HO1.out); have HQ2 := Lib.hid ((hb2.block _ (lt_of_heap HQ1.out)).trans HQ1.out); skip; clear c0 c1 c2 c3 c4 c5 c6 c7 c8 f0 f1 f2 f3 f4 f5 f6 f7 f8; obtain ⟨⟨c0, c1, c2, c3, c4, c5, c6, c7, c8⟩, f0, f1, f2, f3, f4, f5, f6, f7, f8⟩ := nine HN2.out; clear hb2)))
    have HN3 := Lib.hid (HN2.out.put (.int .u64 (e : Int)) (.int .u64 (v : Int)) (.int .u64 (n : Int)) (.int .u64 (x : Int)) (.string r) (.bool o) (.int .u64 (b : Int)) (.int .u64 (c : Int)) (.int .i64 t))
    have HM3 := Lib.hid (HM2.out.putted (g := w.heap.size) (by omega) (.int .u64 (e : Int)) (.int .u64 (v : Int)) (.int .u64 (n : Int)) (.int .u64 (x : Int)) (.string r) (.bool o) (.int .u64 (b : Int)) (.int .u64 (c : Int)) (.int .i64 t))
    have HO3 := Lib.hid ((put_other (w := w2) (g := w.heap.size) (q := w.heap.size + 1 + 1) (by omega) (.int .u64 (e : Int)) (.int .u64 (v : Int)) (.int .u64 (n : Int)) (.int .u64 (x : Int)) (.string r) (.bool o) (.int .u64 (b : Int)) (.int .u64 (c : Int)) (.int .i64 t)).trans HO2.out)
    have HQ3 := Lib.hid ((put_other (w := w2) (g := w.heap.size) (q := w.heap.size + 1 + 1 + 1) (by omega) (.int .u64 (e : Int)) (.int .u64 (v : Int)) (.int .u64 (n : Int)) (.int .u64 (x : Int)) (.string r) (.bool o) (.int .u64 (b : Int)) (.int .u64 (c : Int)) (.int .i64 t)).trans HQ2.out)
    have HB3 := Lib.hid (set9 (Nat.le_refl _) HB2.out (.int .u64 (e : Int)) (.int .u64 (v : Int)) (.int .u64 (n : Int)) (.int .u64 (x : Int)) (.string r) (.bool o) (.int .u64 (b : Int)) (.int .u64 (c : Int)) (.int .i64 t))
    generalize (((((((((w2.setCell ⟨w.heap.size, 0, none⟩ (.int .u64 (e : Int))).setCell ⟨w.heap.size, 1, none⟩ (.int .u64 (v : Int))).setCell ⟨w.heap.size, 2, none⟩ (.int .u64 (n : Int))).setCell ⟨w.heap.size, 3, none⟩ (.int .u64 (x : Int))).setCell ⟨w.heap.size, 4, none⟩ (.string r)).setCell ⟨w.heap.size, 5, none⟩ (.bool o)).setCell ⟨w.heap.size, 6, none⟩ (.int .u64 (b : Int))).setCell ⟨w.heap.size, 7, none⟩ (.int .u64 (c : Int))).setCell ⟨w.heap.size, 8, none⟩ (.int .i64 t)) = w3 at *
    clear c0 c1 c2 c3 c4 c5 c6 c7 c8 f0 f1 f2 f3 f4 f5 f6 f7 f8
    go_wp2
    go_step3
    exact ⟨rfl, TkJ.mk w.heap.size rfl rfl HN3.out HM3.out HO3.out HB3.out⟩
  · rintro a wz ⟨u, g, hg, rfl, h1, h2, h3, hb⟩
    obtain ⟨⟨c0, c1, c2, c3, c4, c5, c6, c7, c8⟩, f0, f1, f2, f3, f4, f5, f6, f7, f8⟩ := nine h1
    obtain ⟨⟨d0, d1, d2, d3, d4, d5, d6, d7, d8⟩, g0, g1, g2, g3, g4, g5, g6, g7, g8⟩ := nine h2
    obtain ⟨⟨m0, m1, m2⟩, l0, l1, l2⟩ := three h3
    have HB := Lib.hid hb
    have HG := Lib.hid hg
    clear h1 h2 h3 hb hg
    unfold tkF
    go_wp2
    simp only [Exit.jump]
    refine bodyPost_ret (v := .tuple #[.agg #[.int .u64 (e : Int), .int .u64 (v : Int), .int .u64 (n : Int), .int .u64 (x : Int), .string r, .bool o, .int .u64 (b : Int), .int .u64 (c : Int), .int .i64 t], .agg #[.int .u64 0, .int .u64 0, .string ⟨#[]⟩], .string ⟨#[]⟩, .int .i64 4]) (by simp [results, Try.results14, go_sem, *]) rfl ⟨rfl, ?_⟩
    exact set3 (by have := HG.out; omega) (set9 (by have := HG.out; omega) HB.out _ _ _ _ _ _ _ _ _) _ _ _
end Go.Proofs.Ytdojepkmjifoeaa
