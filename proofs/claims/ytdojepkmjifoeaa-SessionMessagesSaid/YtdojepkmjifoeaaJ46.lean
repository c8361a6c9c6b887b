/- Sessions: Take. -/
import Derived.Test.YtdojepkmjifoeaaJ45
set_option linter.unusedVariables false
set_option linter.unusedSimpArgs false
namespace Go.Proofs.Ytdojepkmjifoeaa
open Go.RowKit

set_option maxRecDepth 100000 in
set_option maxHeartbeats 16000000 in
theorem take_kind (s : Ss) (hs : s.ok) (tx : ByteArray) (ht : tx.size ≤ 1000000000) (hm : okM tx) (hk : pK tx ≠ 2) (w : World) : Calls Try.prog 14 #[s.val, .string tx] w fun z w' => z = .returned (.tuple #[s.val, .agg #[.int .u64 0, .int .u64 0, .string ⟨#[]⟩], .string ⟨#[]⟩, .int .i64 10]) ∧ Below w.heap.size w w' := by
  have K30 := Lib.hid (fun w => own_any s hs.r w)
  obtain ⟨e, v, n, x, r, o, b, c, t⟩ := s
  have K9 := Lib.hid (fun w => read_ok tx ht hm w)
  have t1 : ((pK tx : Int) == 2) = false := by rw [beq_eq_false_iff_ne]; omega
  generalize pK tx = kk0 at *
  generalize pE tx = ep at *
  generalize msN tx = mn at *
  generalize msB tx = mb at *
  unfold Ss.val at K30 ⊢
  simp only at K30 ⊢
  obtain ⟨w0, hw0⟩ : ∃ w0, w0 = ((((w.alloc (.cells #[.int .u64 (e : Int), .int .u64 (v : Int), .int .u64 (n : Int), .int .u64 (x : Int), .string r, .bool o, .int .u64 (b : Int), .int .u64 (c : Int), .int .i64 t] 39)).alloc (.cells #[.int .u64 0, .int .u64 0, .int .u64 0, .int .u64 0, .string ⟨#[]⟩, .bool false, .int .u64 0, .int .u64 0, .int .i64 0] 39)).alloc (.cells #[.int .u64 0, .int .u64 0, .string ⟨#[]⟩] 47)).alloc (.cells #[.int .u64 0, .int .u64 0, .string ⟨#[]⟩] 47)) := ⟨_, rfl⟩
  have HB0 := Lib.hid (show Below w.heap.size w w0 by rw [hw0]; exact Bk.bt (Bk.bt (Bk.bt (alloc_below _ _))))
  have HN0 := Lib.hid (show N9 w0 w.heap.size (.int .u64 (e : Int)) (.int .u64 (v : Int)) (.int .u64 (n : Int)) (.int .u64 (x : Int)) (.string r) (.bool o) (.int .u64 (b : Int)) (.int .u64 (c : Int)) (.int .i64 t) by rw [hw0]; exact (((N9.new _ _ _ _ _ _ _ _ _ _).later (alloc_below _ _)).later (alloc_below _ _)).later (alloc_below _ _))
  have HM0 := Lib.hid (show N9 w0 (w.heap.size + 1) (.int .u64 0) (.int .u64 0) (.int .u64 0) (.int .u64 0) (.string ⟨#[]⟩) (.bool false) (.int .u64 0) (.int .u64 0) (.int .i64 0) by
    rw [hw0]; have h := N9.new (w.alloc (.cells #[.int .u64 (e : Int), .int .u64 (v : Int), .int .u64 (n : Int), .int .u64 (x : Int), .string r, .bool o, .int .u64 (b : Int), .int .u64 (c : Int), .int .i64 t] 39)) (.int .u64 0) (.int .u64 0) (.int .u64 0) (.int .u64 0) (.string ⟨#[]⟩) (.bool false) (.int .u64 0) (.int .u64 0) (.int .i64 0)
    have e : (w.alloc (.cells #[.int .u64 (e : Int), .int .u64 (v : Int), .int .u64 (n : Int), .int .u64 (x : Int), .string r, .bool o, .int .u64 (b : Int), .int .u64 (c : Int), .int .i64 t] 39)).heap.size = w.heap.size + 1 := by simp
    rw [e] at h; exact (h.later (alloc_below _ _)).later (alloc_below _ _))
  have HO0 := Lib.hid (show w0.heap[w.heap.size + 1 + 1]? = some (.cells #[.int .u64 0, .int .u64 0, .string ⟨#[]⟩] 47 (0, 0)) by
    rw [hw0]; have h := heap_alloc_new ((w.alloc (.cells #[.int .u64 (e : Int), .int .u64 (v : Int), .int .u64 (n : Int), .int .u64 (x : Int), .string r, .bool o, .int .u64 (b : Int), .int .u64 (c : Int), .int .i64 t] 39)).alloc (.cells #[.int .u64 0, .int .u64 0, .int .u64 0, .int .u64 0, .string ⟨#[]⟩, .bool false, .int .u64 0, .int .u64 0, .int .i64 0] 39)) (.cells #[.int .u64 0, .int .u64 0, .string ⟨#[]⟩] 47)
    have e : ((w.alloc (.cells #[.int .u64 (e : Int), .int .u64 (v : Int), .int .u64 (n : Int), .int .u64 (x : Int), .string r, .bool o, .int .u64 (b : Int), .int .u64 (c : Int), .int .i64 t] 39)).alloc (.cells #[.int .u64 0, .int .u64 0, .int .u64 0, .int .u64 0, .string ⟨#[]⟩, .bool false, .int .u64 0, .int .u64 0, .int .i64 0] 39)).heap.size = w.heap.size + 1 + 1 := by simp
    rw [e] at h
    exact ((alloc_below _ _).block _ (lt_of_heap h)).trans h)
  have HQ0 := Lib.hid (show w0.heap[w.heap.size + 1 + 1 + 1]? = some (.cells #[.int .u64 0, .int .u64 0, .string ⟨#[]⟩] 47 (0, 0)) by
    rw [hw0]; have h := heap_alloc_new (((w.alloc (.cells #[.int .u64 (e : Int), .int .u64 (v : Int), .int .u64 (n : Int), .int .u64 (x : Int), .string r, .bool o, .int .u64 (b : Int), .int .u64 (c : Int), .int .i64 t] 39)).alloc (.cells #[.int .u64 0, .int .u64 0, .int .u64 0, .int .u64 0, .string ⟨#[]⟩, .bool false, .int .u64 0, .int .u64 0, .int .i64 0] 39)).alloc (.cells #[.int .u64 0, .int .u64 0, .string ⟨#[]⟩] 47)) (.cells #[.int .u64 0, .int .u64 0, .string ⟨#[]⟩] 47)
    have e : (((w.alloc (.cells #[.int .u64 (e : Int), .int .u64 (v : Int), .int .u64 (n : Int), .int .u64 (x : Int), .string r, .bool o, .int .u64 (b : Int), .int .u64 (c : Int), .int .i64 t] 39)).alloc (.cells #[.int .u64 0, .int .u64 0, .int .u64 0, .int .u64 0, .string ⟨#[]⟩, .bool false, .int .u64 0, .int .u64 0, .int .i64 0] 39)).alloc (.cells #[.int .u64 0, .int .u64 0, .string ⟨#[]⟩] 47)).heap.size = w.heap.size + 1 + 1 + 1 := by simp
    rw [e] at h
    exact h)
  clear hs ht hm hk
  go_enter Try.func14, Try.ntmps14
  go_wp2_with fail
  refine wp_scope_jumps 0 (TkJ w ⟨e, v, n, x, r, o, b, c, t⟩ ⟨#[]⟩ 10) (fun _ _ => 0) rfl ?_ ?_
  · go_upto_region 5 with (first
      | (rw [← hw0]; clear hw0; obtain ⟨⟨c0, c1, c2, c3, c4, c5, c6, c7, c8⟩, f0, f1, f2, f3, f4, f5, f6, f7, f8⟩ := nine HN0.out)
      | (go_at_call 9; ((with_reducible refine (K9.out _).mono ?_); rintro z w1 ⟨ρ, oN, capN, rfl, hpa⟩; have HPA := Lib.hid hpa; have hb1 := hpa.1; clear hpa; have HB1 := Lib.hid (HB0.out.trans (hb1.mono HB0.out.size)); have HN1 := Lib.hid (HN0.out.later hb1); have HM1 := Lib.hid (HM0.out.later hb1); have HO1 := Lib.hid ((hb1.block _ (lt_of_heap HO0.out)).trans HO0.out); have HQ1 := Lib.hid ((hb1.block _ (lt_of_heap HQ0.out)).trans HQ0.out); clear c0 c1 c2 c3 c4 c5 c6 c7 c8 f0 f1 f2 f3 f4 f5 f6 f7 f8; obtain ⟨⟨c0, c1, c2, c3, c4, c5, c6, c7, c8⟩, f0, f1, f2, f3, f4, f5, f6, f7, f8⟩ := nine HN1.out; clear hb1))
      | (go_at_call 30; ((with_reducible refine (K30.out _).mono ?_); rintro z w2 ⟨rfl, hb2⟩; have HB2 := Lib.hid (HB1.out.trans (hb2.mono HB1.out.size)); have HN2 := Lib.hid (HN1.out.later hb2); have HM2 := Lib.hid (HM1.out.later hb2); have HO2 := Lib.hid ((hb2.block _ (lt_of_heap HO1.out)).trans HO1.out); have HQ2 := Lib.hid ((hb2.block _ (lt_of_heap HQ1.out)).trans HQ1.out); skip; clear c0 c1 c2 c3 c4 c5 c6 c7 c8 f0 f1 f2 f3 f4 f5 f6 f7 f8; obtain ⟨⟨c0, c1, c2, c3, c4, c5, c6, c7, c8⟩, f0, f1, f2, f3, f4, f5, f6, f7, f8⟩ := nine HN2.out; clear hb2)))
    have HN3 := Lib.hid (HN2.out.put (.int .u64 (e : Int)) (.int .u64 (v : Int)) (.int .u64 (n : Int)) (.int .u64 (x : Int)) (.string r) (.bool o) (.int .u64 (b : Int)) (.int .u64 (c : Int)) (.int .i64 t))
    have HM3 := Lib.hid (HM2.out.putted (g := w.heap.size) (by omega) (.int .u64 (e : Int)) (.int .u64 (v : Int)) (.int .u64 (n : Int)) (.int .u64 (x : Int)) (.string r) (.bool o) (.int .u64 (b : Int)) (.int .u64 (c : Int)) (.int .i64 t))
    have HO3 := Lib.hid ((put_other (w := w2) (g := w.heap.size) (q := w.heap.size + 1 + 1) (by omega) (.int .u64 (e : Int)) (.int .u64 (v : Int)) (.int .u64 (n : Int)) (.int .u64 (x : Int)) (.string r) (.bool o) (.int .u64 (b : Int)) (.int .u64 (c : Int)) (.int .i64 t)).trans HO2.out)
    have HQ3 := Lib.hid ((put_other (w := w2) (g := w.heap.size) (q := w.heap.size + 1 + 1 + 1) (by omega) (.int .u64 (e : Int)) (.int .u64 (v : Int)) (.int .u64 (n : Int)) (.int .u64 (x : Int)) (.string r) (.bool o) (.int .u64 (b : Int)) (.int .u64 (c : Int)) (.int .i64 t)).trans HQ2.out)
    have HB3 := Lib.hid (set9 (Nat.le_refl _) HB2.out (.int .u64 (e : Int)) (.int .u64 (v : Int)) (.int .u64 (n : Int)) (.int .u64 (x : Int)) (.string r) (.bool o) (.int .u64 (b : Int)) (.int .u64 (c : Int)) (.int .i64 t))
    generalize (((((((((w2.setCell ⟨w.heap.size, 0, none⟩ (.int .u64 (e : Int))).setCell ⟨w.heap.size, 1, none⟩ (.int .u64 (v : Int))).setCell ⟨w.heap.size, 2, none⟩ (.int .u64 (n : Int))).setCell ⟨w.heap.size, 3, none⟩ (.int .u64 (x : Int))).setCell ⟨w.heap.size, 4, none⟩ (.string r)).setCell ⟨w.heap.size, 5, none⟩ (.bool o)).setCell ⟨w.heap.size, 6, none⟩ (.int .u64 (b : Int))).setCell ⟨w.heap.size, 7, none⟩ (.int .u64 (c : Int))).setCell ⟨w.heap.size, 8, none⟩ (.int .i64 t)) = w3 at *
    clear c0 c1 c2 c3 c4 c5 c6 c7 c8 f0 f1 f2 f3 f4 f5 f6 f7 f8
    generalize mn.length = ml at *
    go_wp2
    go_step3
    exact ⟨rfl, TkJ.mk w.heap.size rfl rfl HN3.out HM3.out HO3.out HB3.out⟩
  · rintro a wz ⟨u, g, hg, rfl, h1, h2, h3, hb⟩
    obtain ⟨⟨c0, c1, c2, c3, c4, c5, c6, c7, c8⟩, f0, f1, f2, f3, f4, f5, f6, f7, f8⟩ := nine h1
    obtain ⟨⟨d0, d1, d2, d3, d4, d5, d6, d7, d8⟩, g0, g1, g2, g3, g4, g5, g6, g7, g8⟩ := nine h2
    obtain ⟨⟨m0, m1, m2⟩, l0, l1, l2⟩ := three h3
    have HB := Lib.hid hb
    have HG := Lib.hid hg
    clear h1 h2 h3 hb hg
    unfold tkF
    go_wp2
    simp only [Exit.jump]
    refine bodyPost_ret (v := .tuple #[.agg #[.int .u64 (e : Int), .int .u64 (v : Int), .int .u64 (n : Int), .int .u64 (x : Int), .string r, .bool o, .int .u64 (b : Int), .int .u64 (c : Int), .int .i64 t], .agg #[.int .u64 0, .int .u64 0, .string ⟨#[]⟩], .string ⟨#[]⟩, .int .i64 10]) (by simp [results, Try.results14, go_sem, *]) rfl ⟨rfl, ?_⟩
    exact set3 (by have := HG.out; omega) (set9 (by have := HG.out; omega) HB.out _ _ _ _ _ _ _ _ _) _ _ _
set_option maxRecDepth 100000 in
set_option maxHeartbeats 16000000 in
theorem take_known (s : Ss) (hs : s.ok) (tx : ByteArray) (ht : tx.size ≤ 1000000000) (hm : okM tx) (hk : pK tx = 2) (ver nn : Nat) (hml : msN tx = [ver, nn]) (hc : knC s (pE tx) nn ≠ 0) (w : World) : Calls Try.prog 14 #[s.val, .string tx] w fun z w' => z = .returned (.tuple #[s.val, .agg #[.int .u64 0, .int .u64 0, .string ⟨#[]⟩], .string (knR s (pE tx) nn), .int .i64 (knC s (pE tx) nn : Nat)]) ∧ Below w.heap.size w w' := by
  have K30 := Lib.hid (fun w => own_any s hs.r w)
  obtain ⟨e, v, n, x, r, o, b, c, t⟩ := s
  have K9 := Lib.hid (fun w => read_ok tx ht hm w)
  rw [hk, hml] at K9
  simp only [List.length_cons, List.length_nil, Nat.zero_add, Nat.reduceAdd] at K9
  have K32 := Lib.hid (fun w => known_any ⟨e, v, n, x, r, o, b, c, t⟩ (pE tx) nn hs.r w)
  unfold Ss.val at K32
  simp only at K32
  have t3 : ((knC ⟨e, v, n, x, r, o, b, c, t⟩ (pE tx) nn : Int) == 0) = false := by rw [beq_eq_false_iff_ne]; omega
  obtain ⟨C, hC⟩ : ∃ C, C = knC ⟨e, v, n, x, r, o, b, c, t⟩ (pE tx) nn := ⟨_, rfl⟩
  obtain ⟨R, hR⟩ : ∃ R, R = knR ⟨e, v, n, x, r, o, b, c, t⟩ (pE tx) nn := ⟨_, rfl⟩
  rw [← hC, ← hR] at K32 ⊢
  rw [← hC] at t3
  clear hC hR hc
  generalize pE tx = ep at *
  generalize msB tx = mb at *
  unfold Ss.val at K30 ⊢
  simp only at K30 ⊢
  obtain ⟨w0, hw0⟩ : ∃ w0, w0 = ((((w.alloc (.cells #[.int .u64 (e : Int), .int .u64 (v : Int), .int .u64 (n : Int), .int .u64 (x : Int), .string r, .bool o, .int .u64 (b : Int), .int .u64 (c : Int), .int .i64 t] 39)).alloc (.cells #[.int .u64 0, .int .u64 0, .int .u64 0, .int .u64 0, .string ⟨#[]⟩, .bool false, .int .u64 0, .int .u64 0, .int .i64 0] 39)).alloc (.cells #[.int .u64 0, .int .u64 0, .string ⟨#[]⟩] 47)).alloc (.cells #[.int .u64 0, .int .u64 0, .string ⟨#[]⟩] 47)) := ⟨_, rfl⟩
  have HB0 := Lib.hid (show Below w.heap.size w w0 by rw [hw0]; exact Bk.bt (Bk.bt (Bk.bt (alloc_below _ _))))
  have HN0 := Lib.hid (show N9 w0 w.heap.size (.int .u64 (e : Int)) (.int .u64 (v : Int)) (.int .u64 (n : Int)) (.int .u64 (x : Int)) (.string r) (.bool o) (.int .u64 (b : Int)) (.int .u64 (c : Int)) (.int .i64 t) by rw [hw0]; exact (((N9.new _ _ _ _ _ _ _ _ _ _).later (alloc_below _ _)).later (alloc_below _ _)).later (alloc_below _ _))
  have HM0 := Lib.hid (show N9 w0 (w.heap.size + 1) (.int .u64 0) (.int .u64 0) (.int .u64 0) (.int .u64 0) (.string ⟨#[]⟩) (.bool false) (.int .u64 0) (.int .u64 0) (.int .i64 0) by
    rw [hw0]; have h := N9.new (w.alloc (.cells #[.int .u64 (e : Int), .int .u64 (v : Int), .int .u64 (n : Int), .int .u64 (x : Int), .string r, .bool o, .int .u64 (b : Int), .int .u64 (c : Int), .int .i64 t] 39)) (.int .u64 0) (.int .u64 0) (.int .u64 0) (.int .u64 0) (.string ⟨#[]⟩) (.bool false) (.int .u64 0) (.int .u64 0) (.int .i64 0)
    have e : (w.alloc (.cells #[.int .u64 (e : Int), .int .u64 (v : Int), .int .u64 (n : Int), .int .u64 (x : Int), .string r, .bool o, .int .u64 (b : Int), .int .u64 (c : Int), .int .i64 t] 39)).heap.size = w.heap.size + 1 := by simp
    rw [e] at h; exact (h.later (alloc_below _ _)).later (alloc_below _ _))
  have HO0 := Lib.hid (show w0.heap[w.heap.size + 1 + 1]? = some (.cells #[.int .u64 0, .int .u64 0, .string ⟨#[]⟩] 47 (0, 0)) by
    rw [hw0]; have h := heap_alloc_new ((w.alloc (.cells #[.int .u64 (e : Int), .int .u64 (v : Int), .int .u64 (n : Int), .int .u64 (x : Int), .string r, .bool o, .int .u64 (b : Int), .int .u64 (c : Int), .int .i64 t] 39)).alloc (.cells #[.int .u64 0, .int .u64 0, .int .u64 0, .int .u64 0, .string ⟨#[]⟩, .bool false, .int .u64 0, .int .u64 0, .int .i64 0] 39)) (.cells #[.int .u64 0, .int .u64 0, .string ⟨#[]⟩] 47)
    have e : ((w.alloc (.cells #[.int .u64 (e : Int), .int .u64 (v : Int), .int .u64 (n : Int), .int .u64 (x : Int), .string r, .bool o, .int .u64 (b : Int), .int .u64 (c : Int), .int .i64 t] 39)).alloc (.cells #[.int .u64 0, .int .u64 0, .int .u64 0, .int .u64 0, .string ⟨#[]⟩, .bool false, .int .u64 0, .int .u64 0, .int .i64 0] 39)).heap.size = w.heap.size + 1 + 1 := by simp
    rw [e] at h
    exact ((alloc_below _ _).block _ (lt_of_heap h)).trans h)
  have HQ0 := Lib.hid (show w0.heap[w.heap.size + 1 + 1 + 1]? = some (.cells #[.int .u64 0, .int .u64 0, .string ⟨#[]⟩] 47 (0, 0)) by
    rw [hw0]; have h := heap_alloc_new (((w.alloc (.cells #[.int .u64 (e : Int), .int .u64 (v : Int), .int .u64 (n : Int), .int .u64 (x : Int), .string r, .bool o, .int .u64 (b : Int), .int .u64 (c : Int), .int .i64 t] 39)).alloc (.cells #[.int .u64 0, .int .u64 0, .int .u64 0, .int .u64 0, .string ⟨#[]⟩, .bool false, .int .u64 0, .int .u64 0, .int .i64 0] 39)).alloc (.cells #[.int .u64 0, .int .u64 0, .string ⟨#[]⟩] 47)) (.cells #[.int .u64 0, .int .u64 0, .string ⟨#[]⟩] 47)
    have e : (((w.alloc (.cells #[.int .u64 (e : Int), .int .u64 (v : Int), .int .u64 (n : Int), .int .u64 (x : Int), .string r, .bool o, .int .u64 (b : Int), .int .u64 (c : Int), .int .i64 t] 39)).alloc (.cells #[.int .u64 0, .int .u64 0, .int .u64 0, .int .u64 0, .string ⟨#[]⟩, .bool false, .int .u64 0, .int .u64 0, .int .i64 0] 39)).alloc (.cells #[.int .u64 0, .int .u64 0, .string ⟨#[]⟩] 47)).heap.size = w.heap.size + 1 + 1 + 1 := by simp
    rw [e] at h
    exact h)
  clear hs ht hm hk hml
  go_enter Try.func14, Try.ntmps14
  go_wp2_with fail
  refine wp_scope_jumps 0 (TkJ w ⟨e, v, n, x, r, o, b, c, t⟩ R (C : Int)) (fun _ _ => 0) rfl ?_ ?_
  · go_upto_region 5 with (first
      | (rw [← hw0]; clear hw0; obtain ⟨⟨c0, c1, c2, c3, c4, c5, c6, c7, c8⟩, f0, f1, f2, f3, f4, f5, f6, f7, f8⟩ := nine HN0.out)
      | (go_at_call 9; ((with_reducible refine (K9.out _).mono ?_); rintro z w1 ⟨ρ, oN, capN, rfl, hpa⟩; have HPA := Lib.hid hpa; have hb1 := hpa.1; clear hpa; have HB1 := Lib.hid (HB0.out.trans (hb1.mono HB0.out.size)); have HN1 := Lib.hid (HN0.out.later hb1); have HM1 := Lib.hid (HM0.out.later hb1); have HO1 := Lib.hid ((hb1.block _ (lt_of_heap HO0.out)).trans HO0.out); have HQ1 := Lib.hid ((hb1.block _ (lt_of_heap HQ0.out)).trans HQ0.out); clear c0 c1 c2 c3 c4 c5 c6 c7 c8 f0 f1 f2 f3 f4 f5 f6 f7 f8; obtain ⟨⟨c0, c1, c2, c3, c4, c5, c6, c7, c8⟩, f0, f1, f2, f3, f4, f5, f6, f7, f8⟩ := nine HN1.out; clear hb1))
      | (go_at_call 30; ((with_reducible refine (K30.out _).mono ?_); rintro z w2 ⟨rfl, hb2⟩; have HB2 := Lib.hid (HB1.out.trans (hb2.mono HB1.out.size)); have HN2 := Lib.hid (HN1.out.later hb2); have HM2 := Lib.hid (HM1.out.later hb2); have HO2 := Lib.hid ((hb2.block _ (lt_of_heap HO1.out)).trans HO1.out); have HQ2 := Lib.hid ((hb2.block _ (lt_of_heap HQ1.out)).trans HQ1.out); obtain ⟨rr, hrr, horr, hc0⟩ := (HPA.out.later hb2).2.1.cell 0 (by simp); obtain ⟨rr2, hrr2, _, hc1⟩ := (HPA.out.later hb2).2.1.cell 1 (by simp); rw [hrr] at hrr2; cases hrr2; have HRR := Lib.hid (HPA.out.2.2 rr hrr); subst horr; clear hrr; clear c0 c1 c2 c3 c4 c5 c6 c7 c8 f0 f1 f2 f3 f4 f5 f6 f7 f8; obtain ⟨⟨c0, c1, c2, c3, c4, c5, c6, c7, c8⟩, f0, f1, f2, f3, f4, f5, f6, f7, f8⟩ := nine HN2.out; clear hb2)))
    have HN3 := Lib.hid (HN2.out.put (.int .u64 (e : Int)) (.int .u64 (v : Int)) (.int .u64 (n : Int)) (.int .u64 (x : Int)) (.string r) (.bool o) (.int .u64 (b : Int)) (.int .u64 (c : Int)) (.int .i64 t))
    have HM3 := Lib.hid (HM2.out.putted (g := w.heap.size) (by omega) (.int .u64 (e : Int)) (.int .u64 (v : Int)) (.int .u64 (n : Int)) (.int .u64 (x : Int)) (.string r) (.bool o) (.int .u64 (b : Int)) (.int .u64 (c : Int)) (.int .i64 t))
    have HO3 := Lib.hid ((put_other (w := w2) (g := w.heap.size) (q := w.heap.size + 1 + 1) (by omega) (.int .u64 (e : Int)) (.int .u64 (v : Int)) (.int .u64 (n : Int)) (.int .u64 (x : Int)) (.string r) (.bool o) (.int .u64 (b : Int)) (.int .u64 (c : Int)) (.int .i64 t)).trans HO2.out)
    have HQ3 := Lib.hid ((put_other (w := w2) (g := w.heap.size) (q := w.heap.size + 1 + 1 + 1) (by omega) (.int .u64 (e : Int)) (.int .u64 (v : Int)) (.int .u64 (n : Int)) (.int .u64 (x : Int)) (.string r) (.bool o) (.int .u64 (b : Int)) (.int .u64 (c : Int)) (.int .i64 t)).trans HQ2.out)
    have HB3 := Lib.hid (set9 (Nat.le_refl _) HB2.out (.int .u64 (e : Int)) (.int .u64 (v : Int)) (.int .u64 (n : Int)) (.int .u64 (x : Int)) (.string r) (.bool o) (.int .u64 (b : Int)) (.int .u64 (c : Int)) (.int .i64 t))
    have HNE : Hid (rr ≠ w.heap.size ∧ rr ≠ w.heap.size + 1 + 1 + 1) := Lib.hid (by have h1 := HRR.out; have h2 := lt_of_heap HQ0.out; omega)
    have r0 := (World.cell?_of_block (a := ⟨rr, 0, none⟩) (put_other (w := w2) (g := w.heap.size) (q := rr) HNE.out.1 (.int .u64 (e : Int)) (.int .u64 (v : Int)) (.int .u64 (n : Int)) (.int .u64 (x : Int)) (.string r) (.bool o) (.int .u64 (b : Int)) (.int .u64 (c : Int)) (.int .i64 t))).trans hc0
    have r1 := (World.cell?_of_block (a := ⟨rr, 1, none⟩) (put_other (w := w2) (g := w.heap.size) (q := rr) HNE.out.1 (.int .u64 (e : Int)) (.int .u64 (v : Int)) (.int .u64 (n : Int)) (.int .u64 (x : Int)) (.string r) (.bool o) (.int .u64 (b : Int)) (.int .u64 (c : Int)) (.int .i64 t))).trans hc1
    simp only [List.getElem_cons_zero, List.getElem_cons_succ] at r0 r1
    clear hc0 hc1
    generalize (((((((((w2.setCell ⟨w.heap.size, 0, none⟩ (.int .u64 (e : Int))).setCell ⟨w.heap.size, 1, none⟩ (.int .u64 (v : Int))).setCell ⟨w.heap.size, 2, none⟩ (.int .u64 (n : Int))).setCell ⟨w.heap.size, 3, none⟩ (.int .u64 (x : Int))).setCell ⟨w.heap.size, 4, none⟩ (.string r)).setCell ⟨w.heap.size, 5, none⟩ (.bool o)).setCell ⟨w.heap.size, 6, none⟩ (.int .u64 (b : Int))).setCell ⟨w.heap.size, 7, none⟩ (.int .u64 (c : Int))).setCell ⟨w.heap.size, 8, none⟩ (.int .i64 t)) = w3 at *
    clear c0 c1 c2 c3 c4 c5 c6 c7 c8 f0 f1 f2 f3 f4 f5 f6 f7 f8
    go_upto_region 8 with fail
    have HN00 := Lib.hid (show N9 w3.drew (w.heap.size) (.int .u64 (e : Int)) (.int .u64 (v : Int)) (.int .u64 (n : Int)) (.int .u64 (x : Int)) (.string r) (.bool o) (.int .u64 (b : Int)) (.int .u64 (c : Int)) (.int .i64 t) from HN3.out)
    have HM00 := Lib.hid (show N9 w3.drew (w.heap.size + 1) (.int .u64 0) (.int .u64 0) (.int .u64 0) (.int .u64 0) (.string ⟨#[]⟩) (.bool false) (.int .u64 0) (.int .u64 0) (.int .i64 0) from HM3.out)
    have HO00 := Lib.hid (show w3.drew.heap[w.heap.size + 1 + 1]? = some (.cells #[.int .u64 0, .int .u64 0, .string ⟨#[]⟩] 47 (0, 0)) from HO3.out)
    have HQ00 := Lib.hid (show w3.drew.heap[w.heap.size + 1 + 1 + 1]? = some (.cells #[.int .u64 0, .int .u64 0, .string ⟨#[]⟩] 47 (0, 0)) from HQ3.out)
    have HB00 := Lib.hid (HB3.out.drew)
    refine wp_region_held_drew (S := (fun wz => wz.cell? ⟨rr, 0, none⟩ = some (.int .u64 (ver : Int)) ∧ wz.cell? ⟨rr, 1, none⟩ = some (.int .u64 (nn : Int)))) (by kernel_rfl) ⟨r0, r1⟩ (fun hHeld => ?_)
    clear r0 r1 HN3 HM3 HO3 HQ3 HB3
    generalize w3.drew = wc0 at *
    refine wpAnyH_take (i := 0) (oi := ⟨some 29, _, _, _, _, _⟩) (v := ?_) rfl (by kernel_rfl) (by kernel_rfl) (by kernel_rfl) (fun _ _ _ h => h) (Or.inl ⟨by rfl, by (intro w hSw; (try dsimp only at hSw); go_simp; try with_reducible rfl)⟩) hHeld ?_
    try simp only [Act.put, List.setIfInBounds_toArray, List.set_cons_zero, List.set_cons_succ]
    refine wpAnyH_take (i := 1) (oi := ⟨some 30, _, _, _, _, _⟩) (v := ?_) rfl (by kernel_rfl) (by kernel_rfl) (by kernel_rfl) (fun _ _ _ h => h) (Or.inl ⟨by rfl, by (intro w hSw; (try dsimp only at hSw); go_simp; try with_reducible rfl)⟩) hHeld ?_
    try simp only [Act.put, List.setIfInBounds_toArray, List.set_cons_zero, List.set_cons_succ]
    refine wpAnyH_take (i := 2) (oi := ⟨some 31, _, _, _, _, _⟩) (v := ?_) rfl (by kernel_rfl) (by kernel_rfl) (by kernel_rfl) (fun _ _ _ h => h) (Or.inl ⟨by rfl, by (intro w hSw; (try dsimp only at hSw); go_simp; try with_reducible rfl)⟩) hHeld ?_
    try simp only [Act.put, List.setIfInBounds_toArray, List.set_cons_zero, List.set_cons_succ]
    refine wpAnyH_take (i := 3) (oi := ⟨some 32, _, _, _, _, _⟩) (v := ?_) rfl (by kernel_rfl) (by kernel_rfl) (by kernel_rfl) (fun _ _ _ h => h) (Or.inl ⟨by rfl, by (intro w hSw; (try dsimp only at hSw); go_simp; try with_reducible rfl)⟩) hHeld ?_
    try simp only [Act.put, List.setIfInBounds_toArray, List.set_cons_zero, List.set_cons_succ]
    refine wpAnyH_take (i := 4) (oi := ⟨some 33, _, _, _, _, _⟩) (v := ?_) rfl (by kernel_rfl) (by kernel_rfl) (by kernel_rfl) (fun _ _ _ h => h) (Or.inl ⟨by rfl, by (intro w hSw; (try dsimp only at hSw); go_simp; try with_reducible rfl)⟩) hHeld ?_
    try simp only [Act.put, List.setIfInBounds_toArray, List.set_cons_zero, List.set_cons_succ]
    refine wpAnyH_take (i := 5) (oi := ⟨some 34, _, _, _, _, _⟩) (v := ?_) rfl (by kernel_rfl) (by kernel_rfl) (by kernel_rfl) (fun _ _ _ h => h) (Or.inl ⟨by rfl, by (intro w hSw; (try dsimp only at hSw); go_simp; try with_reducible rfl)⟩) hHeld ?_
    try simp only [Act.put, List.setIfInBounds_toArray, List.set_cons_zero, List.set_cons_succ]
    refine wpAnyH_take (i := 6) (oi := ⟨some 35, _, _, _, _, _⟩) (v := ?_) rfl (by kernel_rfl) (by kernel_rfl) (by kernel_rfl) (fun _ _ _ h => h) (Or.inl ⟨by rfl, by (intro w hSw; (try dsimp only at hSw); go_simp; try with_reducible rfl)⟩) hHeld ?_
    try simp only [Act.put, List.setIfInBounds_toArray, List.set_cons_zero, List.set_cons_succ]
    refine wpAnyH_take (i := 7) (oi := ⟨some 36, _, _, _, _, _⟩) (v := ?_) rfl (by kernel_rfl) (by kernel_rfl) (by kernel_rfl) (fun _ _ _ h => h) (Or.inl ⟨by rfl, by (intro w hSw; (try dsimp only at hSw); go_simp; try with_reducible rfl)⟩) hHeld ?_
    try simp only [Act.put, List.setIfInBounds_toArray, List.set_cons_zero, List.set_cons_succ]
    refine wpAnyH_ready (rs := [8]) (by kernel_rfl) (by simp) ?_
    refine AllReadyH.cons (o := ⟨none, _, _, _, _, _⟩) rfl (fun K hK => ?_) ?_
    · obtain ⟨⟨m0, m1, m2⟩, l0, l1, l2⟩ := three HQ00.out
      go_simp
      have HN01 := Lib.hid ((put3_other (w := wc0) (g := w.heap.size + 1 + 1 + 1) (q := w.heap.size) (by omega) (.int .u64 (ver : Int)) (.int .u64 (nn : Int)) (.string mb)).trans HN00.out)
      have HM01 := Lib.hid ((put3_other (w := wc0) (g := w.heap.size + 1 + 1 + 1) (q := w.heap.size + 1) (by omega) (.int .u64 (ver : Int)) (.int .u64 (nn : Int)) (.string mb)).trans HM00.out)
      have HO01 := Lib.hid ((put3_other (w := wc0) (g := w.heap.size + 1 + 1 + 1) (q := w.heap.size + 1 + 1) (by omega) (.int .u64 (ver : Int)) (.int .u64 (nn : Int)) (.string mb)).trans HO00.out)
      have HQ01 := Lib.hid (put3 HQ00.out (.int .u64 (ver : Int)) (.int .u64 (nn : Int)) (.string mb))
      have HB01 := Lib.hid (set3 (g := w.heap.size + 1 + 1 + 1) (by omega) HB00.out (.int .u64 (ver : Int)) (.int .u64 (nn : Int)) (.string mb))
      refine hK.out _ _ ⟨(World.cell?_of_block (a := ⟨rr, 0, none⟩) (put3_other HNE.out.2 _ _ _)).trans hHeld.1, (World.cell?_of_block (a := ⟨rr, 1, none⟩) (put3_other HNE.out.2 _ _ _)).trans hHeld.2⟩ (fun hHeld2 => ?_)
      clear hK K hHeld HN00 HM00 HO00 HQ00 HB00 m0 m1 m2 l0 l1 l2
      have hHeld := hHeld2
      clear hHeld2
      try simp only [Act.put, List.setIfInBounds_toArray, List.set_cons_zero, List.set_cons_succ]
      generalize (((wc0.setCell ⟨w.heap.size + 1 + 1 + 1, 0, none⟩ (.int .u64 (ver : Int))).setCell ⟨w.heap.size + 1 + 1 + 1, 1, none⟩ (.int .u64 (nn : Int))).setCell ⟨w.heap.size + 1 + 1 + 1, 2, none⟩ (.string mb)) = wc1 at *
      refine wpAnyH_done (by kernel_rfl) ?_ _
      simp only [Exit.then]
      apply_assumption
      clear hHeld
      obtain ⟨⟨c0, c1, c2, c3, c4, c5, c6, c7, c8⟩, f0, f1, f2, f3, f4, f5, f6, f7, f8⟩ := nine HN01.out
      obtain ⟨⟨m0, m1, m2⟩, l0, l1, l2⟩ := three HQ01.out
      go_wp2_with (first | (go_at_call 32; ((with_reducible refine (K32.out _).mono ?_); rintro z w5 ⟨rfl, hb5⟩; have HN5 := Lib.hid ((hb5.block _ (lt_of_heap HN01.out)).trans HN01.out); have HM5 := Lib.hid ((hb5.block _ (lt_of_heap HM01.out)).trans HM01.out); have HO5 := Lib.hid ((hb5.block _ (lt_of_heap HO01.out)).trans HO01.out); have HB5 := Lib.hid (HB01.out.trans (hb5.mono HB01.out.size)); clear c0 c1 c2 c3 c4 c5 c6 c7 c8 f0 f1 f2 f3 f4 f5 f6 f7 f8; clear m0 m1 m2 l0 l1 l2 hb5)))
      go_step3
      exact ⟨rfl, TkJ.mk w.heap.size rfl rfl HN5.out HM5.out HO5.out HB5.out⟩
    · exact AllReadyH.nil
  · rintro a wz ⟨u, g, hg, rfl, h1, h2, h3, hb⟩
    obtain ⟨⟨c0, c1, c2, c3, c4, c5, c6, c7, c8⟩, f0, f1, f2, f3, f4, f5, f6, f7, f8⟩ := nine h1
    obtain ⟨⟨d0, d1, d2, d3, d4, d5, d6, d7, d8⟩, g0, g1, g2, g3, g4, g5, g6, g7, g8⟩ := nine h2
    obtain ⟨⟨m0, m1, m2⟩, l0, l1, l2⟩ := three h3
    have HB := Lib.hid hb
    have HG := Lib.hid hg
    clear h1 h2 h3 hb hg
    unfold tkF
    go_wp2
    simp only [Exit.jump]
    refine bodyPost_ret (v := .tuple #[.agg #[.int .u64 (e : Int), .int .u64 (v : Int), .int .u64 (n : Int), .int .u64 (x : Int), .string r, .bool o, .int .u64 (b : Int), .int .u64 (c : Int), .int .i64 t], .agg #[.int .u64 0, .int .u64 0, .string ⟨#[]⟩], .string R, .int .i64 (C : Int)]) (by simp [results, Try.results14, go_sem, *]) rfl ⟨rfl, ?_⟩
    exact set3 (by have := HG.out; omega) (set9 (by have := HG.out; omega) HB.out _ _ _ _ _ _ _ _ _) _ _ _
end Go.Proofs.Ytdojepkmjifoeaa
