/- Sessions: Done of an offer that is answered. -/
import Derived.Test.YtdojepkmjifoeaaJ42
set_option linter.unusedVariables false
set_option linter.unusedSimpArgs false
namespace Go.Proofs.Ytdojepkmjifoeaa
open Go.RowKit

theorem info39 : (Try.prog.info? 39).map (·.size) = some 9 := by kernel_rfl
theorem N9.range {w : World} {g : Nat} {a0 a1 a2 a3 a4 a5 a6 a7 a8 : Value} (h : N9 w g a0 a1 a2 a3 a4 a5 a6 a7 a8) : w.rangeAt g 0 [a0, a1, a2, a3, a4, a5, a6, a7, a8] := by
  intro j v hj
  rw [Nat.zero_add]
  exact (cell_of_row w g j _ _ _ h).trans (by rw [← Array.getElem?_toList]; exact hj)
theorem ns_new (W : World) (ns : List Nat) (h : ∀ n ∈ ns, n ≤ 18446744073709551615) : NsIn (W.alloc (.cells (ns.map nval).toArray 22)) W.heap.size 0 ns := by
  intro i hi
  refine ⟨?_, h _ (List.getElem_mem hi)⟩
  have hc := news_at W (ns.map nval) 22 W.heap.size rfl i (.int .u64 (ns[i] : Int)) (by rw [List.getElem?_map, List.getElem?_eq_getElem hi]; rfl)
  rw [plain_add] at hc
  rw [Nat.zero_add]
  exact hc
set_option maxRecDepth 100000 in
set_option maxHeartbeats 16000000 in
theorem done_ack (s : Ss) (ver nn : Nat) (bd : ByteArray) (hs : s.ok) (hver : ver ≤ 18446744073709551615) (hn : dnOk s nn) (M : ByteArray) (hM : msgV 3 s.e ⟨#[]⟩ [ver, nn] = M) (hMs : M.size ≤ 1000000000) (w : World) : Calls Try.prog 15 #[s.val, .agg #[.int .u64 (ver : Int), .int .u64 (nn : Int), .string bd], .int .i64 0] w fun z w' => z = .returned (.tuple #[.agg #[.int .u64 (s.e : Int), .int .u64 (ver : Int), .int .u64 (s.n : Int), .int .u64 (s.x : Int), .string M, .bool s.o, .int .u64 (s.b : Int), .int .u64 (s.c : Int), .int .i64 s.t], .string M]) ∧ Below w.heap.size w w' := by
  have hr := hs.r
  have K30 := Lib.hid (fun w => own_any s hr w)
  obtain ⟨e, v, n, x, r, o, b, c, t⟩ := s
  unfold dnOk at hn
  simp only at hn hM
  obtain ⟨rfl, hn0, rfl⟩ := hn
  have t2 : ((nn : Int) == 0) = false := by rw [beq_eq_false_iff_ne]; omega
  unfold Ss.val at K30 ⊢
  simp only at K30 ⊢
  obtain ⟨w0, hw0⟩ : ∃ w0, w0 = (((w.alloc (.cells #[.int .u64 (e : Int), .int .u64 (v : Int), .int .u64 (nn : Int), .int .u64 (x : Int), .string ⟨#[]⟩, .bool o, .int .u64 (b : Int), .int .u64 (c : Int), .int .i64 t] 39)).alloc (.cells #[.int .u64 (ver : Int), .int .u64 (nn : Int), .string bd] 47)).alloc (.cells #[.int .u64 0, .int .u64 0, .int .u64 0, .int .u64 0, .string ⟨#[]⟩, .bool false, .int .u64 0, .int .u64 0, .int .i64 0] 39)) := ⟨_, rfl⟩
  have HB0 := Lib.hid (show Below w.heap.size w w0 by rw [hw0]; exact Bk.bt (Bk.bt (alloc_below _ _)))
  have HN0 := Lib.hid (show N9 w0 w.heap.size (.int .u64 (e : Int)) (.int .u64 (v : Int)) (.int .u64 (nn : Int)) (.int .u64 (x : Int)) (.string ⟨#[]⟩) (.bool o) (.int .u64 (b : Int)) (.int .u64 (c : Int)) (.int .i64 t) by rw [hw0]; exact ((N9.new _ _ _ _ _ _ _ _ _ _).later (alloc_below _ _)).later (alloc_below _ _))
  have HO0 := Lib.hid (show w0.heap[w.heap.size + 1]? = some (.cells #[.int .u64 (ver : Int), .int .u64 (nn : Int), .string bd] 47 (0, 0)) by
    rw [hw0]; have h := heap_alloc_new (w.alloc (.cells #[.int .u64 (e : Int), .int .u64 (v : Int), .int .u64 (nn : Int), .int .u64 (x : Int), .string ⟨#[]⟩, .bool o, .int .u64 (b : Int), .int .u64 (c : Int), .int .i64 t] 39)) (.cells #[.int .u64 (ver : Int), .int .u64 (nn : Int), .string bd] 47)
    have e : (w.alloc (.cells #[.int .u64 (e : Int), .int .u64 (v : Int), .int .u64 (nn : Int), .int .u64 (x : Int), .string ⟨#[]⟩, .bool o, .int .u64 (b : Int), .int .u64 (c : Int), .int .i64 t] 39)).heap.size = w.heap.size + 1 := by simp
    rw [e] at h
    exact ((alloc_below _ _).block _ (lt_of_heap h)).trans h)
  have HM0 := Lib.hid (show N9 w0 (w.heap.size + 1 + 1) (.int .u64 0) (.int .u64 0) (.int .u64 0) (.int .u64 0) (.string ⟨#[]⟩) (.bool false) (.int .u64 0) (.int .u64 0) (.int .i64 0) by
    rw [hw0]; have h := N9.new ((w.alloc (.cells #[.int .u64 (e : Int), .int .u64 (v : Int), .int .u64 (nn : Int), .int .u64 (x : Int), .string ⟨#[]⟩, .bool o, .int .u64 (b : Int), .int .u64 (c : Int), .int .i64 t] 39)).alloc (.cells #[.int .u64 (ver : Int), .int .u64 (nn : Int), .string bd] 47)) (.int .u64 0) (.int .u64 0) (.int .u64 0) (.int .u64 0) (.string ⟨#[]⟩) (.bool false) (.int .u64 0) (.int .u64 0) (.int .i64 0)
    have e : ((w.alloc (.cells #[.int .u64 (e : Int), .int .u64 (v : Int), .int .u64 (nn : Int), .int .u64 (x : Int), .string ⟨#[]⟩, .bool o, .int .u64 (b : Int), .int .u64 (c : Int), .int .i64 t] 39)).alloc (.cells #[.int .u64 (ver : Int), .int .u64 (nn : Int), .string bd] 47)).heap.size = w.heap.size + 1 + 1 := by simp
    rw [e] at h; exact h)
  clear hr hn0
  go_enter Try.func15, Try.ntmps15
  go_upto_region 2 with (first
    | (rw [← hw0]; clear hw0; obtain ⟨⟨c0, c1, c2, c3, c4, c5, c6, c7, c8⟩, f0, f1, f2, f3, f4, f5, f6, f7, f8⟩ := nine HN0.out)
    | (go_at_call 30; ((with_reducible refine (K30.out _).mono ?_); rintro z w1 ⟨rfl, hb1⟩; have HB1 := Lib.hid (HB0.out.trans (hb1.mono HB0.out.size)); have HN1 := Lib.hid (HN0.out.later hb1); have HM1 := Lib.hid (HM0.out.later hb1); have HO1 := Lib.hid ((hb1.block _ (lt_of_heap HO0.out)).trans HO0.out); obtain ⟨⟨c0, c1, c2, c3, c4, c5, c6, c7, c8⟩, f0, f1, f2, f3, f4, f5, f6, f7, f8⟩ := nine HN1.out; clear hb1)))
  have HN2 := Lib.hid (HN1.out.put (.int .u64 (e : Int)) (.int .u64 (v : Int)) (.int .u64 (nn : Int)) (.int .u64 (x : Int)) (.string ⟨#[]⟩) (.bool o) (.int .u64 (b : Int)) (.int .u64 (c : Int)) (.int .i64 t))
  have HM2 := Lib.hid (HM1.out.putted (g := w.heap.size) (by omega) (.int .u64 (e : Int)) (.int .u64 (v : Int)) (.int .u64 (nn : Int)) (.int .u64 (x : Int)) (.string ⟨#[]⟩) (.bool o) (.int .u64 (b : Int)) (.int .u64 (c : Int)) (.int .i64 t))
  have HO2 := Lib.hid ((put_other (w := w1) (g := w.heap.size) (q := w.heap.size + 1) (by omega) (.int .u64 (e : Int)) (.int .u64 (v : Int)) (.int .u64 (nn : Int)) (.int .u64 (x : Int)) (.string ⟨#[]⟩) (.bool o) (.int .u64 (b : Int)) (.int .u64 (c : Int)) (.int .i64 t)).trans HO1.out)
  have HB2 := Lib.hid (set9 (Nat.le_refl _) HB1.out (.int .u64 (e : Int)) (.int .u64 (v : Int)) (.int .u64 (nn : Int)) (.int .u64 (x : Int)) (.string ⟨#[]⟩) (.bool o) (.int .u64 (b : Int)) (.int .u64 (c : Int)) (.int .i64 t))
  generalize (((((((((w1.setCell ⟨w.heap.size, 0, none⟩ (.int .u64 (e : Int))).setCell ⟨w.heap.size, 1, none⟩ (.int .u64 (v : Int))).setCell ⟨w.heap.size, 2, none⟩ (.int .u64 (nn : Int))).setCell ⟨w.heap.size, 3, none⟩ (.int .u64 (x : Int))).setCell ⟨w.heap.size, 4, none⟩ (.string ⟨#[]⟩)).setCell ⟨w.heap.size, 5, none⟩ (.bool o)).setCell ⟨w.heap.size, 6, none⟩ (.int .u64 (b : Int))).setCell ⟨w.heap.size, 7, none⟩ (.int .u64 (c : Int))).setCell ⟨w.heap.size, 8, none⟩ (.int .i64 t)) = w2 at *
  clear c0 c1 c2 c3 c4 c5 c6 c7 c8 f0 f1 f2 f3 f4 f5 f6 f7 f8
  obtain ⟨⟨c0, c1, c2, c3, c4, c5, c6, c7, c8⟩, f0, f1, f2, f3, f4, f5, f6, f7, f8⟩ := nine HN2.out
  obtain ⟨⟨d0, d1, d2, d3, d4, d5, d6, d7, d8⟩, g0, g1, g2, g3, g4, g5, g6, g7, g8⟩ := nine HM2.out
  obtain ⟨⟨b0, b1, b2⟩, _⟩ := three HO2.out
  have hns : ∀ q ∈ [ver, nn], q ≤ 18446744073709551615 := by
    intro q hq
    simp at hq
    rcases hq with rfl | rfl
    · exact hver
    · exact hs.n
  have K7 : Hid (∀ (W : World) (g : Nat), g = W.heap.size → Calls Try.prog 7 #[.int .i64 3, .int .u64 (e : Int), .string ⟨#[]⟩, .slice (some ⟨g, 0, none⟩) 2 2] (W.alloc (.cells #[.int .u64 (ver : Int), .int .u64 (nn : Int)] 22)) fun z w' => z = .returned (.string M) ∧ Below (W.alloc (.cells #[.int .u64 (ver : Int), .int .u64 (nn : Int)] 22)).heap.size (W.alloc (.cells #[.int .u64 (ver : Int), .int .u64 (nn : Int)] 22)) w') := Lib.hid (fun W g hg => by
    subst hg
    have h := message_any 3 e ⟨#[]⟩ [ver, nn] (some ⟨W.heap.size, 0, none⟩) 2 W.heap.size 0 (by simp [ByteArray.size]) hs.e (W.alloc (.cells #[.int .u64 (ver : Int), .int .u64 (nn : Int)] 22)) (fun _ => ⟨rfl, alloc_lt _ _⟩) (ns_new W [ver, nn] hns)
    rw [hM] at h
    exact h)
  have KM := Lib.hid (fun w => clone_any M w hMs)
  clear hM hMs hs hns hver
  go_upto_region 8 with (first
    | (go_at_call 7; ((with_reducible refine (K7.out _ _ ?_).mono ?_); (focus (simp; done)); rintro z w7 ⟨rfl, hb7⟩; have HW7 := Lib.hid (Bk.bt hb7); clear hb7; clear c0 c1 c2 c3 c4 c5 c6 c7 c8 f0 f1 f2 f3 f4 f5 f6 f7 f8; clear d0 d1 d2 d3 d4 d5 d6 d7 d8 g0 g1 g2 g3 g4 g5 g6 g7 g8; obtain ⟨⟨c0, c1, c2, c3, c4, c5, c6, c7, c8⟩, f0, f1, f2, f3, f4, f5, f6, f7, f8⟩ := nine ((((HN2.out).set1 _).later HW7.out))))
    )
  have HN8 : Hid (N9 (w7.setCell ⟨w.heap.size, 4, none⟩ (.string M)) w.heap.size (.int .u64 (e : Int)) (.int .u64 (ver : Int)) (.int .u64 (nn : Int)) (.int .u64 (x : Int)) (.string M) (.bool o) (.int .u64 (b : Int)) (.int .u64 (c : Int)) (.int .i64 t)) := Lib.hid ((((HN2.out).set1 _).later HW7.out).set4 _)
  have HM8 : Hid (N9 (w7.setCell ⟨w.heap.size, 4, none⟩ (.string M)) (w.heap.size + 1 + 1) (.int .u64 0) (.int .u64 0) (.int .u64 0) (.int .u64 0) (.string ⟨#[]⟩) (.bool false) (.int .u64 0) (.int .u64 0) (.int .i64 0)) := Lib.hid ((((HM2.out).set_other (by omega) _ _).later HW7.out).set_other (by omega) _ _)
  have HB8 : Hid (Below w.heap.size w (w7.setCell ⟨w.heap.size, 4, none⟩ (.string M))) := Lib.hid ((((HB2.out).setCell (Nat.le_refl _) _).trans (HW7.out.mono ((HB2.out).setCell (Nat.le_refl _) _).size)).setCell (Nat.le_refl _) _)
  generalize (w7.setCell ⟨w.heap.size, 4, none⟩ (.string M)) = w8 at *
  clear c0 c1 c2 c3 c4 c5 c6 c7 c8 f0 f1 f2 f3 f4 f5 f6 f7 f8
  have mkS : Hid (∀ wz, N9 wz (w.heap.size) (.int .u64 (e : Int)) (.int .u64 (ver : Int)) (.int .u64 (nn : Int)) (.int .u64 (x : Int)) (.string M) (.bool o) (.int .u64 (b : Int)) (.int .u64 (c : Int)) (.int .i64 t) → Below w.heap.size w wz → (wz.cell? ⟨w.heap.size, 4, none⟩ = some (.string M) ∧ wz.rangeAt (w.heap.size) 0 [.int .u64 (e : Int), .int .u64 (ver : Int), .int .u64 (nn : Int), .int .u64 (x : Int), .string M, .bool o, .int .u64 (b : Int), .int .u64 (c : Int), .int .i64 t] ∧ Hid (N9 wz (w.heap.size) (.int .u64 (e : Int)) (.int .u64 (ver : Int)) (.int .u64 (nn : Int)) (.int .u64 (x : Int)) (.string M) (.bool o) (.int .u64 (b : Int)) (.int .u64 (c : Int)) (.int .i64 t) ∧ Below w.heap.size w wz))) := Lib.hid (fun wz h hb => ⟨(nine h).1.2.2.2.2.1, h.range, Lib.hid ⟨h, hb⟩⟩)
  have HY0 := Lib.hid (show N9 w8.drew (w.heap.size + 1 + 1) (.int .u64 0) (.int .u64 0) (.int .u64 0) (.int .u64 0) (.string ⟨#[]⟩) (.bool false) (.int .u64 0) (.int .u64 0) (.int .i64 0) from HM8.out)
  refine wp_region_held_drew (S := (fun wz => wz.cell? ⟨w.heap.size, 4, none⟩ = some (.string M) ∧ wz.rangeAt (w.heap.size) 0 [.int .u64 (e : Int), .int .u64 (ver : Int), .int .u64 (nn : Int), .int .u64 (x : Int), .string M, .bool o, .int .u64 (b : Int), .int .u64 (c : Int), .int .i64 t] ∧ Hid (N9 wz (w.heap.size) (.int .u64 (e : Int)) (.int .u64 (ver : Int)) (.int .u64 (nn : Int)) (.int .u64 (x : Int)) (.string M) (.bool o) (.int .u64 (b : Int)) (.int .u64 (c : Int)) (.int .i64 t) ∧ Below w.heap.size w wz))) (by kernel_rfl) (mkS.out _ HN8.out HB8.out.drew) (fun hHeld => ?_)
  refine wpAnyH_take (i := 0) (oi := ⟨some 52, _, _, _, _, _⟩) (v := .agg ([.int .u64 (e : Int), .int .u64 (ver : Int), .int .u64 (nn : Int), .int .u64 (x : Int), .string M, .bool o, .int .u64 (b : Int), .int .u64 (c : Int), .int .i64 t]).toArray) rfl (by kernel_rfl) (by kernel_rfl) (by kernel_rfl) (fun _ _ _ h => h) (yieldsIf_load_mid (by rfl) 39 (.tmp 3) rfl (w.heap.size) (0) rfl ([.int .u64 (e : Int), .int .u64 (ver : Int), .int .u64 (nn : Int), .int .u64 (x : Int), .string M, .bool o, .int .u64 (b : Int), .int .u64 (c : Int), .int .i64 t]) _ (fun w hSw => hSw.2.1) Try.underlying39 rfl info39) hHeld ?_
  try simp only [Act.put, List.setIfInBounds_toArray, List.set_cons_zero, List.set_cons_succ]
  refine wpAnyH_take (i := 1) (oi := ⟨some 53, _, _, _, _, _⟩) (v := ?_) rfl (by kernel_rfl) (by kernel_rfl) (by kernel_rfl) (fun _ _ _ h => h) (Or.inl ⟨by rfl, by (intro w hSw; (try dsimp only at hSw); go_simp; try with_reducible rfl)⟩) hHeld ?_
  try simp only [Act.put, List.setIfInBounds_toArray, List.set_cons_zero, List.set_cons_succ]
  refine wpAnyH_take (i := 2) (oi := ⟨some 54, _, _, _, _, _⟩) (v := ?_) rfl (by kernel_rfl) (by kernel_rfl) (by kernel_rfl) (fun _ _ _ h => h) (Or.inl ⟨by rfl, by (intro w hSw; (try dsimp only at hSw); go_simp; try with_reducible rfl)⟩) hHeld ?_
  try simp only [Act.put, List.setIfInBounds_toArray, List.set_cons_zero, List.set_cons_succ]
  refine wpAnyH_ready (rs := [3]) (by kernel_rfl) (by simp) ?_
  refine AllReadyH.cons (o := ⟨some 55, _, _, _, _, _⟩) rfl (fun K hK => ?_) ?_
  · go_simp
    refine (KM.out _).mono ?_
    rintro z wc1 ⟨rfl, hbn⟩
    try go_simp
    have HY1 := Lib.hid (HY0.out.later hbn)
    refine hK.out _ _ (mkS.out _ (hHeld.2.2.out.1.later hbn) (hHeld.2.2.out.2.trans (hbn.mono hHeld.2.2.out.2.size))) (fun hHeld2 => ?_)
    clear hK K hHeld hbn
    have hHeld := hHeld2
    clear hHeld2
    try simp only [Act.put, List.setIfInBounds_toArray, List.set_cons_zero, List.set_cons_succ]
    refine wpAnyH_ready (rs := [4]) (by kernel_rfl) (by simp) ?_
    refine AllReadyH.cons (o := ⟨none, _, _, _, _, _⟩) rfl (fun K hK => ?_) ?_
    · obtain ⟨⟨d0, d1, d2, d3, d4, d5, d6, d7, d8⟩, g0, g1, g2, g3, g4, g5, g6, g7, g8⟩ := nine HY1.out
      go_simp
      have HY2 := Lib.hid (HY1.out.put (.int .u64 (e : Int)) (.int .u64 (ver : Int)) (.int .u64 (nn : Int)) (.int .u64 (x : Int)) (.string M) (.bool o) (.int .u64 (b : Int)) (.int .u64 (c : Int)) (.int .i64 t))
      refine hK.out _ _ (mkS.out _ (hHeld.2.2.out.1.putted (g := w.heap.size + 1 + 1) (by omega) _ _ _ _ _ _ _ _ _) (set9 (by omega) hHeld.2.2.out.2 _ _ _ _ _ _ _ _ _)) (fun hHeld2 => ?_)
      clear hK K hHeld
      have hHeld := hHeld2
      clear hHeld2
      clear d0 d1 d2 d3 d4 d5 d6 d7 d8 g0 g1 g2 g3 g4 g5 g6 g7 g8
      try simp only [Act.put, List.setIfInBounds_toArray, List.set_cons_zero, List.set_cons_succ]
      generalize (((((((((wc1.setCell ⟨w.heap.size + 1 + 1, 0, none⟩ (.int .u64 (e : Int))).setCell ⟨w.heap.size + 1 + 1, 1, none⟩ (.int .u64 (ver : Int))).setCell ⟨w.heap.size + 1 + 1, 2, none⟩ (.int .u64 (nn : Int))).setCell ⟨w.heap.size + 1 + 1, 3, none⟩ (.int .u64 (x : Int))).setCell ⟨w.heap.size + 1 + 1, 4, none⟩ (.string M)).setCell ⟨w.heap.size + 1 + 1, 5, none⟩ (.bool o)).setCell ⟨w.heap.size + 1 + 1, 6, none⟩ (.int .u64 (b : Int))).setCell ⟨w.heap.size + 1 + 1, 7, none⟩ (.int .u64 (c : Int))).setCell ⟨w.heap.size + 1 + 1, 8, none⟩ (.int .i64 t)) = wc2 at *
      refine wpAnyH_take (i := 5) (oi := ⟨some 7, _, _, _, _, _⟩) (v := ?_) rfl (by kernel_rfl) (by kernel_rfl) (by kernel_rfl) (fun _ _ _ h => h) (Or.inl ⟨by rfl, by (intro w hSw; (try dsimp only at hSw); go_simp; try with_reducible rfl)⟩) hHeld ?_
      try simp only [Act.put, List.setIfInBounds_toArray, List.set_cons_zero, List.set_cons_succ]
      refine wpAnyH_done (by kernel_rfl) ?_ _
      simp only [Exit.then]
      apply_assumption
      obtain ⟨⟨d0, d1, d2, d3, d4, d5, d6, d7, d8⟩, g0, g1, g2, g3, g4, g5, g6, g7, g8⟩ := nine HY2.out
      have HBY := Lib.hid hHeld.2.2.out.2
      go_wp2
      refine bodyPost_ret (v := .tuple #[.agg #[.int .u64 (e : Int), .int .u64 (ver : Int), .int .u64 (nn : Int), .int .u64 (x : Int), .string M, .bool o, .int .u64 (b : Int), .int .u64 (c : Int), .int .i64 t], .string M]) (by simp [results, Try.results15, go_sem, *]) rfl ⟨rfl, ?_⟩
      exact HBY.out
    · exact AllReadyH.nil
  · exact AllReadyH.nil
set_option maxRecDepth 100000 in
set_option maxHeartbeats 16000000 in
theorem done_nack (s : Ss) (ver nn : Nat) (bd : ByteArray) (hs : s.ok) (hver : ver ≤ 18446744073709551615) (q : Nat) (hq0 : q ≠ 0) (hq1 : q ≤ 1000000) (hn : dnOk s nn) (M : ByteArray) (hM : msgV 4 s.e ⟨#[]⟩ [s.v, nn, q] = M) (hMs : M.size ≤ 1000000000) (w : World) : Calls Try.prog 15 #[s.val, .agg #[.int .u64 (ver : Int), .int .u64 (nn : Int), .string bd], .int .i64 (q : Int)] w fun z w' => z = .returned (.tuple #[.agg #[.int .u64 (s.e : Int), .int .u64 (s.v : Int), .int .u64 (s.n : Int), .int .u64 (s.x : Int), .string M, .bool s.o, .int .u64 (s.b : Int), .int .u64 (s.c : Int), .int .i64 s.t], .string M]) ∧ Below w.heap.size w w' := by
  have hr := hs.r
  have K30 := Lib.hid (fun w => own_any s hr w)
  obtain ⟨e, v, n, x, r, o, b, c, t⟩ := s
  unfold dnOk at hn
  simp only at hn hM
  obtain ⟨rfl, hn0, rfl⟩ := hn
  have t2 : ((nn : Int) == 0) = false := by rw [beq_eq_false_iff_ne]; omega
  unfold Ss.val at K30 ⊢
  simp only at K30 ⊢
  obtain ⟨w0, hw0⟩ : ∃ w0, w0 = (((w.alloc (.cells #[.int .u64 (e : Int), .int .u64 (v : Int), .int .u64 (nn : Int), .int .u64 (x : Int), .string ⟨#[]⟩, .bool o, .int .u64 (b : Int), .int .u64 (c : Int), .int .i64 t] 39)).alloc (.cells #[.int .u64 (ver : Int), .int .u64 (nn : Int), .string bd] 47)).alloc (.cells #[.int .u64 0, .int .u64 0, .int .u64 0, .int .u64 0, .string ⟨#[]⟩, .bool false, .int .u64 0, .int .u64 0, .int .i64 0] 39)) := ⟨_, rfl⟩
  have HB0 := Lib.hid (show Below w.heap.size w w0 by rw [hw0]; exact Bk.bt (Bk.bt (alloc_below _ _)))
  have HN0 := Lib.hid (show N9 w0 w.heap.size (.int .u64 (e : Int)) (.int .u64 (v : Int)) (.int .u64 (nn : Int)) (.int .u64 (x : Int)) (.string ⟨#[]⟩) (.bool o) (.int .u64 (b : Int)) (.int .u64 (c : Int)) (.int .i64 t) by rw [hw0]; exact ((N9.new _ _ _ _ _ _ _ _ _ _).later (alloc_below _ _)).later (alloc_below _ _))
  have HO0 := Lib.hid (show w0.heap[w.heap.size + 1]? = some (.cells #[.int .u64 (ver : Int), .int .u64 (nn : Int), .string bd] 47 (0, 0)) by
    rw [hw0]; have h := heap_alloc_new (w.alloc (.cells #[.int .u64 (e : Int), .int .u64 (v : Int), .int .u64 (nn : Int), .int .u64 (x : Int), .string ⟨#[]⟩, .bool o, .int .u64 (b : Int), .int .u64 (c : Int), .int .i64 t] 39)) (.cells #[.int .u64 (ver : Int), .int .u64 (nn : Int), .string bd] 47)
    have e : (w.alloc (.cells #[.int .u64 (e : Int), .int .u64 (v : Int), .int .u64 (nn : Int), .int .u64 (x : Int), .string ⟨#[]⟩, .bool o, .int .u64 (b : Int), .int .u64 (c : Int), .int .i64 t] 39)).heap.size = w.heap.size + 1 := by simp
    rw [e] at h
    exact ((alloc_below _ _).block _ (lt_of_heap h)).trans h)
  have HM0 := Lib.hid (show N9 w0 (w.heap.size + 1 + 1) (.int .u64 0) (.int .u64 0) (.int .u64 0) (.int .u64 0) (.string ⟨#[]⟩) (.bool false) (.int .u64 0) (.int .u64 0) (.int .i64 0) by
    rw [hw0]; have h := N9.new ((w.alloc (.cells #[.int .u64 (e : Int), .int .u64 (v : Int), .int .u64 (nn : Int), .int .u64 (x : Int), .string ⟨#[]⟩, .bool o, .int .u64 (b : Int), .int .u64 (c : Int), .int .i64 t] 39)).alloc (.cells #[.int .u64 (ver : Int), .int .u64 (nn : Int), .string bd] 47)) (.int .u64 0) (.int .u64 0) (.int .u64 0) (.int .u64 0) (.string ⟨#[]⟩) (.bool false) (.int .u64 0) (.int .u64 0) (.int .i64 0)
    have e : ((w.alloc (.cells #[.int .u64 (e : Int), .int .u64 (v : Int), .int .u64 (nn : Int), .int .u64 (x : Int), .string ⟨#[]⟩, .bool o, .int .u64 (b : Int), .int .u64 (c : Int), .int .i64 t] 39)).alloc (.cells #[.int .u64 (ver : Int), .int .u64 (nn : Int), .string bd] 47)).heap.size = w.heap.size + 1 + 1 := by simp
    rw [e] at h; exact h)
  clear hr hn0
  go_enter Try.func15, Try.ntmps15
  go_upto_region 2 with (first
    | (rw [← hw0]; clear hw0; obtain ⟨⟨c0, c1, c2, c3, c4, c5, c6, c7, c8⟩, f0, f1, f2, f3, f4, f5, f6, f7, f8⟩ := nine HN0.out)
    | (go_at_call 30; ((with_reducible refine (K30.out _).mono ?_); rintro z w1 ⟨rfl, hb1⟩; have HB1 := Lib.hid (HB0.out.trans (hb1.mono HB0.out.size)); have HN1 := Lib.hid (HN0.out.later hb1); have HM1 := Lib.hid (HM0.out.later hb1); have HO1 := Lib.hid ((hb1.block _ (lt_of_heap HO0.out)).trans HO0.out); obtain ⟨⟨c0, c1, c2, c3, c4, c5, c6, c7, c8⟩, f0, f1, f2, f3, f4, f5, f6, f7, f8⟩ := nine HN1.out; clear hb1)))
  have HN2 := Lib.hid (HN1.out.put (.int .u64 (e : Int)) (.int .u64 (v : Int)) (.int .u64 (nn : Int)) (.int .u64 (x : Int)) (.string ⟨#[]⟩) (.bool o) (.int .u64 (b : Int)) (.int .u64 (c : Int)) (.int .i64 t))
  have HM2 := Lib.hid (HM1.out.putted (g := w.heap.size) (by omega) (.int .u64 (e : Int)) (.int .u64 (v : Int)) (.int .u64 (nn : Int)) (.int .u64 (x : Int)) (.string ⟨#[]⟩) (.bool o) (.int .u64 (b : Int)) (.int .u64 (c : Int)) (.int .i64 t))
  have HO2 := Lib.hid ((put_other (w := w1) (g := w.heap.size) (q := w.heap.size + 1) (by omega) (.int .u64 (e : Int)) (.int .u64 (v : Int)) (.int .u64 (nn : Int)) (.int .u64 (x : Int)) (.string ⟨#[]⟩) (.bool o) (.int .u64 (b : Int)) (.int .u64 (c : Int)) (.int .i64 t)).trans HO1.out)
  have HB2 := Lib.hid (set9 (Nat.le_refl _) HB1.out (.int .u64 (e : Int)) (.int .u64 (v : Int)) (.int .u64 (nn : Int)) (.int .u64 (x : Int)) (.string ⟨#[]⟩) (.bool o) (.int .u64 (b : Int)) (.int .u64 (c : Int)) (.int .i64 t))
  generalize (((((((((w1.setCell ⟨w.heap.size, 0, none⟩ (.int .u64 (e : Int))).setCell ⟨w.heap.size, 1, none⟩ (.int .u64 (v : Int))).setCell ⟨w.heap.size, 2, none⟩ (.int .u64 (nn : Int))).setCell ⟨w.heap.size, 3, none⟩ (.int .u64 (x : Int))).setCell ⟨w.heap.size, 4, none⟩ (.string ⟨#[]⟩)).setCell ⟨w.heap.size, 5, none⟩ (.bool o)).setCell ⟨w.heap.size, 6, none⟩ (.int .u64 (b : Int))).setCell ⟨w.heap.size, 7, none⟩ (.int .u64 (c : Int))).setCell ⟨w.heap.size, 8, none⟩ (.int .i64 t)) = w2 at *
  clear c0 c1 c2 c3 c4 c5 c6 c7 c8 f0 f1 f2 f3 f4 f5 f6 f7 f8
  obtain ⟨⟨c0, c1, c2, c3, c4, c5, c6, c7, c8⟩, f0, f1, f2, f3, f4, f5, f6, f7, f8⟩ := nine HN2.out
  obtain ⟨⟨d0, d1, d2, d3, d4, d5, d6, d7, d8⟩, g0, g1, g2, g3, g4, g5, g6, g7, g8⟩ := nine HM2.out
  obtain ⟨⟨b0, b1, b2⟩, _⟩ := three HO2.out
  have hns : ∀ z ∈ [v, nn, q], z ≤ 18446744073709551615 := by
    intro z hz
    simp at hz
    rcases hz with rfl | rfl | rfl
    · exact hs.v
    · exact hs.n
    · omega
  have q1 : ((q : Int) == 0) = false := by rw [beq_eq_false_iff_ne]; omega
  have q2 : max (q : Int) 0 = (q : Int) := by omega
  have q3 : IntKind.u64.wrap (q : Int) = (q : Int) := IntWalk.u64_in _ ⟨by omega, by omega⟩
  clear hq0 hq1
  have K7 : Hid (∀ (W : World) (g : Nat), g = W.heap.size → Calls Try.prog 7 #[.int .i64 4, .int .u64 (e : Int), .string ⟨#[]⟩, .slice (some ⟨g, 0, none⟩) 3 3] (W.alloc (.cells #[.int .u64 (v : Int), .int .u64 (nn : Int), .int .u64 (q : Int)] 22)) fun z w' => z = .returned (.string M) ∧ Below (W.alloc (.cells #[.int .u64 (v : Int), .int .u64 (nn : Int), .int .u64 (q : Int)] 22)).heap.size (W.alloc (.cells #[.int .u64 (v : Int), .int .u64 (nn : Int), .int .u64 (q : Int)] 22)) w') := Lib.hid (fun W g hg => by
    subst hg
    have h := message_any 4 e ⟨#[]⟩ [v, nn, q] (some ⟨W.heap.size, 0, none⟩) 3 W.heap.size 0 (by simp [ByteArray.size]) hs.e (W.alloc (.cells #[.int .u64 (v : Int), .int .u64 (nn : Int), .int .u64 (q : Int)] 22)) (fun _ => ⟨rfl, alloc_lt _ _⟩) (ns_new W [v, nn, q] hns)
    rw [hM] at h
    exact h)
  have KM := Lib.hid (fun w => clone_any M w hMs)
  clear hM hMs hs hns hver
  go_upto_region 8 with (first
    | (go_at_call 7; ((with_reducible refine (K7.out _ _ ?_).mono ?_); (focus (simp; done)); rintro z w7 ⟨rfl, hb7⟩; have HW7 := Lib.hid (Bk.bt hb7); clear hb7; clear c0 c1 c2 c3 c4 c5 c6 c7 c8 f0 f1 f2 f3 f4 f5 f6 f7 f8; clear d0 d1 d2 d3 d4 d5 d6 d7 d8 g0 g1 g2 g3 g4 g5 g6 g7 g8; obtain ⟨⟨c0, c1, c2, c3, c4, c5, c6, c7, c8⟩, f0, f1, f2, f3, f4, f5, f6, f7, f8⟩ := nine (((HN2.out).later HW7.out))))
    )
  have HN8 : Hid (N9 (w7.setCell ⟨w.heap.size, 4, none⟩ (.string M)) w.heap.size (.int .u64 (e : Int)) (.int .u64 (v : Int)) (.int .u64 (nn : Int)) (.int .u64 (x : Int)) (.string M) (.bool o) (.int .u64 (b : Int)) (.int .u64 (c : Int)) (.int .i64 t)) := Lib.hid (((HN2.out).later HW7.out).set4 _)
  have HM8 : Hid (N9 (w7.setCell ⟨w.heap.size, 4, none⟩ (.string M)) (w.heap.size + 1 + 1) (.int .u64 0) (.int .u64 0) (.int .u64 0) (.int .u64 0) (.string ⟨#[]⟩) (.bool false) (.int .u64 0) (.int .u64 0) (.int .i64 0)) := Lib.hid (((HM2.out).later HW7.out).set_other (by omega) _ _)
  have HB8 : Hid (Below w.heap.size w (w7.setCell ⟨w.heap.size, 4, none⟩ (.string M))) := Lib.hid (((HB2.out).trans (HW7.out.mono (HB2.out).size)).setCell (Nat.le_refl _) _)
  generalize (w7.setCell ⟨w.heap.size, 4, none⟩ (.string M)) = w8 at *
  clear c0 c1 c2 c3 c4 c5 c6 c7 c8 f0 f1 f2 f3 f4 f5 f6 f7 f8
  have mkS : Hid (∀ wz, N9 wz (w.heap.size) (.int .u64 (e : Int)) (.int .u64 (v : Int)) (.int .u64 (nn : Int)) (.int .u64 (x : Int)) (.string M) (.bool o) (.int .u64 (b : Int)) (.int .u64 (c : Int)) (.int .i64 t) → Below w.heap.size w wz → (wz.cell? ⟨w.heap.size, 4, none⟩ = some (.string M) ∧ wz.rangeAt (w.heap.size) 0 [.int .u64 (e : Int), .int .u64 (v : Int), .int .u64 (nn : Int), .int .u64 (x : Int), .string M, .bool o, .int .u64 (b : Int), .int .u64 (c : Int), .int .i64 t] ∧ Hid (N9 wz (w.heap.size) (.int .u64 (e : Int)) (.int .u64 (v : Int)) (.int .u64 (nn : Int)) (.int .u64 (x : Int)) (.string M) (.bool o) (.int .u64 (b : Int)) (.int .u64 (c : Int)) (.int .i64 t) ∧ Below w.heap.size w wz))) := Lib.hid (fun wz h hb => ⟨(nine h).1.2.2.2.2.1, h.range, Lib.hid ⟨h, hb⟩⟩)
  have HY0 := Lib.hid (show N9 w8.drew (w.heap.size + 1 + 1) (.int .u64 0) (.int .u64 0) (.int .u64 0) (.int .u64 0) (.string ⟨#[]⟩) (.bool false) (.int .u64 0) (.int .u64 0) (.int .i64 0) from HM8.out)
  refine wp_region_held_drew (S := (fun wz => wz.cell? ⟨w.heap.size, 4, none⟩ = some (.string M) ∧ wz.rangeAt (w.heap.size) 0 [.int .u64 (e : Int), .int .u64 (v : Int), .int .u64 (nn : Int), .int .u64 (x : Int), .string M, .bool o, .int .u64 (b : Int), .int .u64 (c : Int), .int .i64 t] ∧ Hid (N9 wz (w.heap.size) (.int .u64 (e : Int)) (.int .u64 (v : Int)) (.int .u64 (nn : Int)) (.int .u64 (x : Int)) (.string M) (.bool o) (.int .u64 (b : Int)) (.int .u64 (c : Int)) (.int .i64 t) ∧ Below w.heap.size w wz))) (by kernel_rfl) (mkS.out _ HN8.out HB8.out.drew) (fun hHeld => ?_)
  refine wpAnyH_take (i := 0) (oi := ⟨some 52, _, _, _, _, _⟩) (v := .agg ([.int .u64 (e : Int), .int .u64 (v : Int), .int .u64 (nn : Int), .int .u64 (x : Int), .string M, .bool o, .int .u64 (b : Int), .int .u64 (c : Int), .int .i64 t]).toArray) rfl (by kernel_rfl) (by kernel_rfl) (by kernel_rfl) (fun _ _ _ h => h) (yieldsIf_load_mid (by rfl) 39 (.tmp 3) rfl (w.heap.size) (0) rfl ([.int .u64 (e : Int), .int .u64 (v : Int), .int .u64 (nn : Int), .int .u64 (x : Int), .string M, .bool o, .int .u64 (b : Int), .int .u64 (c : Int), .int .i64 t]) _ (fun w hSw => hSw.2.1) Try.underlying39 rfl info39) hHeld ?_
  try simp only [Act.put, List.setIfInBounds_toArray, List.set_cons_zero, List.set_cons_succ]
  refine wpAnyH_take (i := 1) (oi := ⟨some 53, _, _, _, _, _⟩) (v := ?_) rfl (by kernel_rfl) (by kernel_rfl) (by kernel_rfl) (fun _ _ _ h => h) (Or.inl ⟨by rfl, by (intro w hSw; (try dsimp only at hSw); go_simp; try with_reducible rfl)⟩) hHeld ?_
  try simp only [Act.put, List.setIfInBounds_toArray, List.set_cons_zero, List.set_cons_succ]
  refine wpAnyH_take (i := 2) (oi := ⟨some 54, _, _, _, _, _⟩) (v := ?_) rfl (by kernel_rfl) (by kernel_rfl) (by kernel_rfl) (fun _ _ _ h => h) (Or.inl ⟨by rfl, by (intro w hSw; (try dsimp only at hSw); go_simp; try with_reducible rfl)⟩) hHeld ?_
  try simp only [Act.put, List.setIfInBounds_toArray, List.set_cons_zero, List.set_cons_succ]
  refine wpAnyH_ready (rs := [3]) (by kernel_rfl) (by simp) ?_
  refine AllReadyH.cons (o := ⟨some 55, _, _, _, _, _⟩) rfl (fun K hK => ?_) ?_
  · go_simp
    refine (KM.out _).mono ?_
    rintro z wc1 ⟨rfl, hbn⟩
    try go_simp
    have HY1 := Lib.hid (HY0.out.later hbn)
    refine hK.out _ _ (mkS.out _ (hHeld.2.2.out.1.later hbn) (hHeld.2.2.out.2.trans (hbn.mono hHeld.2.2.out.2.size))) (fun hHeld2 => ?_)
    clear hK K hHeld hbn
    have hHeld := hHeld2
    clear hHeld2
    try simp only [Act.put, List.setIfInBounds_toArray, List.set_cons_zero, List.set_cons_succ]
    refine wpAnyH_ready (rs := [4]) (by kernel_rfl) (by simp) ?_
    refine AllReadyH.cons (o := ⟨none, _, _, _, _, _⟩) rfl (fun K hK => ?_) ?_
    · obtain ⟨⟨d0, d1, d2, d3, d4, d5, d6, d7, d8⟩, g0, g1, g2, g3, g4, g5, g6, g7, g8⟩ := nine HY1.out
      go_simp
      have HY2 := Lib.hid (HY1.out.put (.int .u64 (e : Int)) (.int .u64 (v : Int)) (.int .u64 (nn : Int)) (.int .u64 (x : Int)) (.string M) (.bool o) (.int .u64 (b : Int)) (.int .u64 (c : Int)) (.int .i64 t))
      refine hK.out _ _ (mkS.out _ (hHeld.2.2.out.1.putted (g := w.heap.size + 1 + 1) (by omega) _ _ _ _ _ _ _ _ _) (set9 (by omega) hHeld.2.2.out.2 _ _ _ _ _ _ _ _ _)) (fun hHeld2 => ?_)
      clear hK K hHeld
      have hHeld := hHeld2
      clear hHeld2
      clear d0 d1 d2 d3 d4 d5 d6 d7 d8 g0 g1 g2 g3 g4 g5 g6 g7 g8
      try simp only [Act.put, List.setIfInBounds_toArray, List.set_cons_zero, List.set_cons_succ]
      generalize (((((((((wc1.setCell ⟨w.heap.size + 1 + 1, 0, none⟩ (.int .u64 (e : Int))).setCell ⟨w.heap.size + 1 + 1, 1, none⟩ (.int .u64 (v : Int))).setCell ⟨w.heap.size + 1 + 1, 2, none⟩ (.int .u64 (nn : Int))).setCell ⟨w.heap.size + 1 + 1, 3, none⟩ (.int .u64 (x : Int))).setCell ⟨w.heap.size + 1 + 1, 4, none⟩ (.string M)).setCell ⟨w.heap.size + 1 + 1, 5, none⟩ (.bool o)).setCell ⟨w.heap.size + 1 + 1, 6, none⟩ (.int .u64 (b : Int))).setCell ⟨w.heap.size + 1 + 1, 7, none⟩ (.int .u64 (c : Int))).setCell ⟨w.heap.size + 1 + 1, 8, none⟩ (.int .i64 t)) = wc2 at *
      refine wpAnyH_take (i := 5) (oi := ⟨some 7, _, _, _, _, _⟩) (v := ?_) rfl (by kernel_rfl) (by kernel_rfl) (by kernel_rfl) (fun _ _ _ h => h) (Or.inl ⟨by rfl, by (intro w hSw; (try dsimp only at hSw); go_simp; try with_reducible rfl)⟩) hHeld ?_
      try simp only [Act.put, List.setIfInBounds_toArray, List.set_cons_zero, List.set_cons_succ]
      refine wpAnyH_done (by kernel_rfl) ?_ _
      simp only [Exit.then]
      apply_assumption
      obtain ⟨⟨d0, d1, d2, d3, d4, d5, d6, d7, d8⟩, g0, g1, g2, g3, g4, g5, g6, g7, g8⟩ := nine HY2.out
      have HBY := Lib.hid hHeld.2.2.out.2
      go_wp2
      refine bodyPost_ret (v := .tuple #[.agg #[.int .u64 (e : Int), .int .u64 (v : Int), .int .u64 (nn : Int), .int .u64 (x : Int), .string M, .bool o, .int .u64 (b : Int), .int .u64 (c : Int), .int .i64 t], .string M]) (by simp [results, Try.results15, go_sem, *]) rfl ⟨rfl, ?_⟩
      exact HBY.out
    · exact AllReadyH.nil
  · exact AllReadyH.nil
end Go.Proofs.Ytdojepkmjifoeaa
