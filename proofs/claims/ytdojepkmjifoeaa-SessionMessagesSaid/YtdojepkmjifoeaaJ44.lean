/- Sessions: Lost, Tick. -/
import Derived.Test.YtdojepkmjifoeaaJ43
set_option linter.unusedVariables false
set_option linter.unusedSimpArgs false
namespace Go.Proofs.Ytdojepkmjifoeaa
open Go.RowKit

set_option maxRecDepth 100000 in
set_option maxHeartbeats 8000000 in
theorem lost_not (s : Ss) (now : Nat) (hs : s.ok) (ho : s.o = false) (w : World) : Calls Try.prog 16 #[s.val, .int .u64 (now : Int)] w fun z w' => z = .returned s.val ∧ Below w.heap.size w w' := by
  have K30 := Lib.hid (fun w => own_any s hs.r w)
  obtain ⟨e, v, n, x, r, o, b, c, t⟩ := s
  simp only at ho
  subst ho
  unfold Ss.val at K30 ⊢
  simp only at K30 ⊢
  obtain ⟨w0, hw0⟩ : ∃ w0, w0 = ((w.alloc (.cells #[.int .u64 (e : Int), .int .u64 (v : Int), .int .u64 (n : Int), .int .u64 (x : Int), .string r, .bool false, .int .u64 (b : Int), .int .u64 (c : Int), .int .i64 t] 39)).alloc (.cells #[.int .u64 0, .int .u64 0, .int .u64 0, .int .u64 0, .string ⟨#[]⟩, .bool false, .int .u64 0, .int .u64 0, .int .i64 0] 39)) := ⟨_, rfl⟩
  have HB0 := Lib.hid (show Below w.heap.size w w0 by rw [hw0]; exact Bk.bt (alloc_below _ _))
  have HN0 := Lib.hid (show N9 w0 w.heap.size (.int .u64 (e : Int)) (.int .u64 (v : Int)) (.int .u64 (n : Int)) (.int .u64 (x : Int)) (.string r) (.bool false) (.int .u64 (b : Int)) (.int .u64 (c : Int)) (.int .i64 t) by rw [hw0]; exact (N9.new _ _ _ _ _ _ _ _ _ _).later (alloc_below _ _))
  have HM0 := Lib.hid (show N9 w0 (w.heap.size + 1) (.int .u64 0) (.int .u64 0) (.int .u64 0) (.int .u64 0) (.string ⟨#[]⟩) (.bool false) (.int .u64 0) (.int .u64 0) (.int .i64 0) by
    rw [hw0]; have h := N9.new (w.alloc (.cells #[.int .u64 (e : Int), .int .u64 (v : Int), .int .u64 (n : Int), .int .u64 (x : Int), .string r, .bool false, .int .u64 (b : Int), .int .u64 (c : Int), .int .i64 t] 39)) (.int .u64 0) (.int .u64 0) (.int .u64 0) (.int .u64 0) (.string ⟨#[]⟩) (.bool false) (.int .u64 0) (.int .u64 0) (.int .i64 0)
    have e : (w.alloc (.cells #[.int .u64 (e : Int), .int .u64 (v : Int), .int .u64 (n : Int), .int .u64 (x : Int), .string r, .bool false, .int .u64 (b : Int), .int .u64 (c : Int), .int .i64 t] 39)).heap.size = w.heap.size + 1 := by simp
    rw [e] at h; exact h)
  clear hs
  go_enter Try.func16, Try.ntmps16
  go_upto_region 2 with (first
    | (rw [← hw0]; clear hw0; obtain ⟨⟨c0, c1, c2, c3, c4, c5, c6, c7, c8⟩, f0, f1, f2, f3, f4, f5, f6, f7, f8⟩ := nine HN0.out)
    | (go_at_call 30; ((with_reducible refine (K30.out _).mono ?_); rintro z w1 ⟨rfl, hb1⟩; have HB1 := Lib.hid (HB0.out.trans (hb1.mono HB0.out.size)); have HN1 := Lib.hid (HN0.out.later hb1); have HM1 := Lib.hid (HM0.out.later hb1); obtain ⟨⟨c0, c1, c2, c3, c4, c5, c6, c7, c8⟩, f0, f1, f2, f3, f4, f5, f6, f7, f8⟩ := nine HN1.out; clear hb1)))
  have HN2 := Lib.hid (HN1.out.put (.int .u64 (e : Int)) (.int .u64 (v : Int)) (.int .u64 (n : Int)) (.int .u64 (x : Int)) (.string r) (.bool false) (.int .u64 (b : Int)) (.int .u64 (c : Int)) (.int .i64 t))
  have HM2 := Lib.hid (HM1.out.putted (g := w.heap.size) (by omega) (.int .u64 (e : Int)) (.int .u64 (v : Int)) (.int .u64 (n : Int)) (.int .u64 (x : Int)) (.string r) (.bool false) (.int .u64 (b : Int)) (.int .u64 (c : Int)) (.int .i64 t))
  have HB2 := Lib.hid (set9 (Nat.le_refl _) HB1.out (.int .u64 (e : Int)) (.int .u64 (v : Int)) (.int .u64 (n : Int)) (.int .u64 (x : Int)) (.string r) (.bool false) (.int .u64 (b : Int)) (.int .u64 (c : Int)) (.int .i64 t))
  generalize (((((((((w1.setCell ⟨w.heap.size, 0, none⟩ (.int .u64 (e : Int))).setCell ⟨w.heap.size, 1, none⟩ (.int .u64 (v : Int))).setCell ⟨w.heap.size, 2, none⟩ (.int .u64 (n : Int))).setCell ⟨w.heap.size, 3, none⟩ (.int .u64 (x : Int))).setCell ⟨w.heap.size, 4, none⟩ (.string r)).setCell ⟨w.heap.size, 5, none⟩ (.bool false)).setCell ⟨w.heap.size, 6, none⟩ (.int .u64 (b : Int))).setCell ⟨w.heap.size, 7, none⟩ (.int .u64 (c : Int))).setCell ⟨w.heap.size, 8, none⟩ (.int .i64 t)) = w2 at *
  clear c0 c1 c2 c3 c4 c5 c6 c7 c8 f0 f1 f2 f3 f4 f5 f6 f7 f8
  obtain ⟨⟨c0, c1, c2, c3, c4, c5, c6, c7, c8⟩, f0, f1, f2, f3, f4, f5, f6, f7, f8⟩ := nine HN2.out
  obtain ⟨⟨d0, d1, d2, d3, d4, d5, d6, d7, d8⟩, g0, g1, g2, g3, g4, g5, g6, g7, g8⟩ := nine HM2.out
  go_wp2
  refine bodyPost_ret (v := .agg #[.int .u64 (e : Int), .int .u64 (v : Int), .int .u64 (n : Int), .int .u64 (x : Int), .string r, .bool false, .int .u64 (b : Int), .int .u64 (c : Int), .int .i64 t]) (by simp [results, Try.results16, go_sem, *]) rfl ⟨rfl, ?_⟩
  exact set9 (by omega) HB2.out _ _ _ _ _ _ _ _ _
set_option maxRecDepth 100000 in
set_option maxHeartbeats 16000000 in
theorem lost_ok (s : Ss) (now k : Nat) (hs : s.ok) (hnow : now ≤ 18446744073709551615) (ho : s.o = true) (hk : max s.t 0 = (k : Int)) (hk2 : k ≤ 64) (w : World) : Calls Try.prog 16 #[s.val, .int .u64 (now : Int)] w fun z w' => z = .returned ({ s with o := false, x := adN now (Bk.dl s.b s.c k), t := (Bk.nx k : Int) } : Ss).val ∧ Below w.heap.size w w' := by
  have K30 := Lib.hid (fun w => own_any s hs.r w)
  obtain ⟨e, v, n, x, r, o, b, c, t⟩ := s
  simp only at ho hk
  subst ho
  have K35 := Lib.hid (fun w => Bk.delay_any b c t k hk hk2 hs.b hs.c w)
  have hdl : Bk.dl b c k ≤ 18446744073709551615 := Nat.le_trans (Bk.dl_cap b c k) hs.c
  have K31 := Lib.hid (fun w => wadd_any now (Bk.dl b c k) hnow hdl w)
  have K36 := Lib.hid (fun w => Bk.next_any b c t k hk w)
  unfold Ss.val at K30 ⊢
  simp only at K30 ⊢
  obtain ⟨w0, hw0⟩ : ∃ w0, w0 = ((w.alloc (.cells #[.int .u64 (e : Int), .int .u64 (v : Int), .int .u64 (n : Int), .int .u64 (x : Int), .string r, .bool true, .int .u64 (b : Int), .int .u64 (c : Int), .int .i64 t] 39)).alloc (.cells #[.int .u64 0, .int .u64 0, .int .u64 0, .int .u64 0, .string ⟨#[]⟩, .bool false, .int .u64 0, .int .u64 0, .int .i64 0] 39)) := ⟨_, rfl⟩
  have HB0 := Lib.hid (show Below w.heap.size w w0 by rw [hw0]; exact Bk.bt (alloc_below _ _))
  have HN0 := Lib.hid (show N9 w0 w.heap.size (.int .u64 (e : Int)) (.int .u64 (v : Int)) (.int .u64 (n : Int)) (.int .u64 (x : Int)) (.string r) (.bool true) (.int .u64 (b : Int)) (.int .u64 (c : Int)) (.int .i64 t) by rw [hw0]; exact (N9.new _ _ _ _ _ _ _ _ _ _).later (alloc_below _ _))
  have HM0 := Lib.hid (show N9 w0 (w.heap.size + 1) (.int .u64 0) (.int .u64 0) (.int .u64 0) (.int .u64 0) (.string ⟨#[]⟩) (.bool false) (.int .u64 0) (.int .u64 0) (.int .i64 0) by
    rw [hw0]; have h := N9.new (w.alloc (.cells #[.int .u64 (e : Int), .int .u64 (v : Int), .int .u64 (n : Int), .int .u64 (x : Int), .string r, .bool true, .int .u64 (b : Int), .int .u64 (c : Int), .int .i64 t] 39)) (.int .u64 0) (.int .u64 0) (.int .u64 0) (.int .u64 0) (.string ⟨#[]⟩) (.bool false) (.int .u64 0) (.int .u64 0) (.int .i64 0)
    have e : (w.alloc (.cells #[.int .u64 (e : Int), .int .u64 (v : Int), .int .u64 (n : Int), .int .u64 (x : Int), .string r, .bool true, .int .u64 (b : Int), .int .u64 (c : Int), .int .i64 t] 39)).heap.size = w.heap.size + 1 := by simp
    rw [e] at h; exact h)
  generalize adN now (Bk.dl b c k) = z at *
  generalize Bk.dl b c k = dd at *
  generalize Bk.nx k = q at *
  clear hs hk hk2 hdl hnow
  go_enter Try.func16, Try.ntmps16
  go_upto_region 2 with (first
    | (rw [← hw0]; clear hw0; obtain ⟨⟨c0, c1, c2, c3, c4, c5, c6, c7, c8⟩, f0, f1, f2, f3, f4, f5, f6, f7, f8⟩ := nine HN0.out)
    | (go_at_call 30; ((with_reducible refine (K30.out _).mono ?_); rintro z w1 ⟨rfl, hb1⟩; have HB1 := Lib.hid (HB0.out.trans (hb1.mono HB0.out.size)); have HN1 := Lib.hid (HN0.out.later hb1); have HM1 := Lib.hid (HM0.out.later hb1); obtain ⟨⟨c0, c1, c2, c3, c4, c5, c6, c7, c8⟩, f0, f1, f2, f3, f4, f5, f6, f7, f8⟩ := nine HN1.out; clear hb1)))
  have HN2 := Lib.hid (HN1.out.put (.int .u64 (e : Int)) (.int .u64 (v : Int)) (.int .u64 (n : Int)) (.int .u64 (x : Int)) (.string r) (.bool true) (.int .u64 (b : Int)) (.int .u64 (c : Int)) (.int .i64 t))
  have HM2 := Lib.hid (HM1.out.putted (g := w.heap.size) (by omega) (.int .u64 (e : Int)) (.int .u64 (v : Int)) (.int .u64 (n : Int)) (.int .u64 (x : Int)) (.string r) (.bool true) (.int .u64 (b : Int)) (.int .u64 (c : Int)) (.int .i64 t))
  have HB2 := Lib.hid (set9 (Nat.le_refl _) HB1.out (.int .u64 (e : Int)) (.int .u64 (v : Int)) (.int .u64 (n : Int)) (.int .u64 (x : Int)) (.string r) (.bool true) (.int .u64 (b : Int)) (.int .u64 (c : Int)) (.int .i64 t))
  generalize (((((((((w1.setCell ⟨w.heap.size, 0, none⟩ (.int .u64 (e : Int))).setCell ⟨w.heap.size, 1, none⟩ (.int .u64 (v : Int))).setCell ⟨w.heap.size, 2, none⟩ (.int .u64 (n : Int))).setCell ⟨w.heap.size, 3, none⟩ (.int .u64 (x : Int))).setCell ⟨w.heap.size, 4, none⟩ (.string r)).setCell ⟨w.heap.size, 5, none⟩ (.bool true)).setCell ⟨w.heap.size, 6, none⟩ (.int .u64 (b : Int))).setCell ⟨w.heap.size, 7, none⟩ (.int .u64 (c : Int))).setCell ⟨w.heap.size, 8, none⟩ (.int .i64 t)) = w2 at *
  clear c0 c1 c2 c3 c4 c5 c6 c7 c8 f0 f1 f2 f3 f4 f5 f6 f7 f8
  obtain ⟨⟨c0, c1, c2, c3, c4, c5, c6, c7, c8⟩, f0, f1, f2, f3, f4, f5, f6, f7, f8⟩ := nine HN2.out
  obtain ⟨⟨d0, d1, d2, d3, d4, d5, d6, d7, d8⟩, g0, g1, g2, g3, g4, g5, g6, g7, g8⟩ := nine HM2.out
  go_upto_region 3 with fail
  have HN00 := Lib.hid (show N9 w2.drew w.heap.size (.int .u64 (e : Int)) (.int .u64 (v : Int)) (.int .u64 (n : Int)) (.int .u64 (x : Int)) (.string r) (.bool true) (.int .u64 (b : Int)) (.int .u64 (c : Int)) (.int .i64 t) from HN2.out)
  have HM00 := Lib.hid (show N9 w2.drew (w.heap.size + 1) (.int .u64 0) (.int .u64 0) (.int .u64 0) (.int .u64 0) (.string ⟨#[]⟩) (.bool false) (.int .u64 0) (.int .u64 0) (.int .i64 0) from HM2.out)
  have HB00 := Lib.hid (HB2.out.drew)
  clear c0 c1 c2 c3 c4 c5 c6 c7 c8 f0 f1 f2 f3 f4 f5 f6 f7 f8
  clear d0 d1 d2 d3 d4 d5 d6 d7 d8 g0 g1 g2 g3 g4 g5 g6 g7 g8
  refine wp_region_held_drew (S := fun _ => True) (by kernel_rfl) trivial (fun _ => ?_)
  generalize w2.drew = wc0 at *
  refine wpAnyH_take (i := 0) (oi := ⟨some 9, _, _, _, _, _⟩) (v := ?_) rfl (by kernel_rfl) (by kernel_rfl) (by kernel_rfl) (fun _ _ _ h => h) (Or.inl ⟨by rfl, by (intro w hSw; (try dsimp only at hSw); go_simp; try with_reducible rfl)⟩) trivial ?_
  try simp only [Act.put, List.setIfInBounds_toArray, List.set_cons_zero, List.set_cons_succ]
  refine wpAnyH_take (i := 1) (oi := ⟨some 10, _, _, _, _, _⟩) (v := ?_) rfl (by kernel_rfl) (by kernel_rfl) (by kernel_rfl) (fun _ _ _ h => h) (Or.inl ⟨by rfl, by (intro w hSw; (try dsimp only at hSw); go_simp; try with_reducible rfl)⟩) trivial ?_
  try simp only [Act.put, List.setIfInBounds_toArray, List.set_cons_zero, List.set_cons_succ]
  refine wpAnyH_take (i := 5) (oi := ⟨some 14, _, _, _, _, _⟩) (v := ?_) rfl (by kernel_rfl) (by kernel_rfl) (by kernel_rfl) (fun _ _ _ h => h) (Or.inl ⟨by rfl, by (intro w hSw; (try dsimp only at hSw); go_simp; try with_reducible rfl)⟩) trivial ?_
  try simp only [Act.put, List.setIfInBounds_toArray, List.set_cons_zero, List.set_cons_succ]
  refine wpAnyH_ready (rs := [2, 6]) (by kernel_rfl) (by simp) ?_
  refine AllReadyH.cons (o := ⟨some 11, _, _, _, _, _⟩) rfl (fun K hK => ?_) ?_
  · obtain ⟨⟨c0, c1, c2, c3, c4, c5, c6, c7, c8⟩, f0, f1, f2, f3, f4, f5, f6, f7, f8⟩ := nine HN00.out
    go_simp
    refine hK.out _ _ trivial (fun _ => ?_)
    clear hK K
    clear c0 c1 c2 c3 c4 c5 c6 c7 c8 f0 f1 f2 f3 f4 f5 f6 f7 f8
    try simp only [Act.put, List.setIfInBounds_toArray, List.set_cons_zero, List.set_cons_succ]
    refine wpAnyH_ready (rs := [3, 6]) (by kernel_rfl) (by simp) ?_
    refine AllReadyH.cons (o := ⟨some 12, _, _, _, _, _⟩) rfl (fun K hK => ?_) ?_
    · go_simp
      refine (K35.out _).mono ?_
      rintro ze wc1 ⟨rfl, hbn⟩
      try go_simp
      have HNc1 := Lib.hid (HN00.out.later hbn)
      have HMc1 := Lib.hid (HM00.out.later hbn)
      have HBc1 := Lib.hid (HB00.out.trans (hbn.mono HB00.out.size))
      refine hK.out _ _ trivial (fun _ => ?_)
      clear hK K hbn HN00 HM00 HB00
      try simp only [Act.put, List.setIfInBounds_toArray, List.set_cons_zero, List.set_cons_succ]
      refine wpAnyH_ready (rs := [4, 6]) (by kernel_rfl) (by simp) ?_
      refine AllReadyH.cons (o := ⟨some 13, _, _, _, _, _⟩) rfl (fun K hK => ?_) ?_
      · go_simp
        refine (K31.out _).mono ?_
        rintro ze we ⟨rfl, rfl⟩
        try go_simp
        refine hK.out _ _ trivial (fun _ => ?_)
        clear hK K
        try simp only [Act.put, List.setIfInBounds_toArray, List.set_cons_zero, List.set_cons_succ]
        refine wpAnyH_ready (rs := [6]) (by kernel_rfl) (by simp) ?_
        refine AllReadyH.cons (o := ⟨some 15, _, _, _, _, _⟩) rfl (fun K hK => ?_) ?_
        · obtain ⟨⟨c0, c1, c2, c3, c4, c5, c6, c7, c8⟩, f0, f1, f2, f3, f4, f5, f6, f7, f8⟩ := nine HNc1.out
          go_simp
          refine hK.out _ _ trivial (fun _ => ?_)
          clear hK K
          clear c0 c1 c2 c3 c4 c5 c6 c7 c8 f0 f1 f2 f3 f4 f5 f6 f7 f8
          try simp only [Act.put, List.setIfInBounds_toArray, List.set_cons_zero, List.set_cons_succ]
          refine wpAnyH_take (i := 8) (oi := ⟨some 17, _, _, _, _, _⟩) (v := ?_) rfl (by kernel_rfl) (by kernel_rfl) (by kernel_rfl) (fun _ _ _ h => h) (Or.inl ⟨by rfl, by (intro w hSw; (try dsimp only at hSw); go_simp; try with_reducible rfl)⟩) trivial ?_
          try simp only [Act.put, List.setIfInBounds_toArray, List.set_cons_zero, List.set_cons_succ]
          refine wpAnyH_ready (rs := [7]) (by kernel_rfl) (by simp) ?_
          refine AllReadyH.cons (o := ⟨some 16, _, _, _, _, _⟩) rfl (fun K hK => ?_) ?_
          · go_simp
            refine (K36.out _).mono ?_
            rintro ze wc2 ⟨rfl, hbn⟩
            try go_simp
            have HNc2 := Lib.hid (HNc1.out.later hbn)
            have HMc2 := Lib.hid (HMc1.out.later hbn)
            have HBc2 := Lib.hid (HBc1.out.trans (hbn.mono HBc1.out.size))
            refine hK.out _ _ trivial (fun _ => ?_)
            clear hK K hbn HNc1 HMc1 HBc1
            try simp only [Act.put, List.setIfInBounds_toArray, List.set_cons_zero, List.set_cons_succ]
            refine wpAnyH_ready (rs := [9]) (by kernel_rfl) (by simp) ?_
            refine AllReadyH.cons (o := ⟨none, _, _, _, _, _⟩) rfl (fun K hK => ?_) ?_
            · obtain ⟨⟨c0, c1, c2, c3, c4, c5, c6, c7, c8⟩, f0, f1, f2, f3, f4, f5, f6, f7, f8⟩ := nine HNc2.out
              go_simp
              have HNc3 := Lib.hid ((HNc2.out).set5 (.bool false))
              have HMc3 := Lib.hid ((HMc2.out).set_other (g := w.heap.size) (by omega) 5 (.bool false))
              have HBc3 := Lib.hid ((HBc2.out).setCell (p := ⟨w.heap.size, 5, none⟩) (Nat.le_refl _) (.bool false))
              refine hK.out _ _ trivial (fun _ => ?_)
              clear hK K HNc2 HMc2 HBc2
              clear c0 c1 c2 c3 c4 c5 c6 c7 c8 f0 f1 f2 f3 f4 f5 f6 f7 f8
              try simp only [Act.put, List.setIfInBounds_toArray, List.set_cons_zero, List.set_cons_succ]
              generalize (wc2.setCell ⟨w.heap.size, 5, none⟩ (.bool false)) = wc3 at *
              refine wpAnyH_take (i := 10) (oi := ⟨some 18, _, _, _, _, _⟩) (v := ?_) rfl (by kernel_rfl) (by kernel_rfl) (by kernel_rfl) (fun _ _ _ h => h) (Or.inl ⟨by rfl, by (intro w hSw; (try dsimp only at hSw); go_simp; try with_reducible rfl)⟩) trivial ?_
              try simp only [Act.put, List.setIfInBounds_toArray, List.set_cons_zero, List.set_cons_succ]
              refine wpAnyH_ready (rs := [11]) (by kernel_rfl) (by simp) ?_
              refine AllReadyH.cons (o := ⟨none, _, _, _, _, _⟩) rfl (fun K hK => ?_) ?_
              · obtain ⟨⟨c0, c1, c2, c3, c4, c5, c6, c7, c8⟩, f0, f1, f2, f3, f4, f5, f6, f7, f8⟩ := nine HNc3.out
                go_simp
                have HNc4 := Lib.hid ((HNc3.out).set3 (.int .u64 (z : Int)))
                have HMc4 := Lib.hid ((HMc3.out).set_other (g := w.heap.size) (by omega) 3 (.int .u64 (z : Int)))
                have HBc4 := Lib.hid ((HBc3.out).setCell (p := ⟨w.heap.size, 3, none⟩) (Nat.le_refl _) (.int .u64 (z : Int)))
                refine hK.out _ _ trivial (fun _ => ?_)
                clear hK K HNc3 HMc3 HBc3
                clear c0 c1 c2 c3 c4 c5 c6 c7 c8 f0 f1 f2 f3 f4 f5 f6 f7 f8
                try simp only [Act.put, List.setIfInBounds_toArray, List.set_cons_zero, List.set_cons_succ]
                generalize (wc3.setCell ⟨w.heap.size, 3, none⟩ (.int .u64 (z : Int))) = wc4 at *
                refine wpAnyH_take (i := 12) (oi := ⟨some 19, _, _, _, _, _⟩) (v := ?_) rfl (by kernel_rfl) (by kernel_rfl) (by kernel_rfl) (fun _ _ _ h => h) (Or.inl ⟨by rfl, by (intro w hSw; (try dsimp only at hSw); go_simp; try with_reducible rfl)⟩) trivial ?_
                try simp only [Act.put, List.setIfInBounds_toArray, List.set_cons_zero, List.set_cons_succ]
                refine wpAnyH_ready (rs := [13]) (by kernel_rfl) (by simp) ?_
                refine AllReadyH.cons (o := ⟨none, _, _, _, _, _⟩) rfl (fun K hK => ?_) ?_
                · obtain ⟨⟨c0, c1, c2, c3, c4, c5, c6, c7, c8⟩, f0, f1, f2, f3, f4, f5, f6, f7, f8⟩ := nine HNc4.out
                  go_simp
                  have HNc5 := Lib.hid ((((HNc4.out).set6 (.int .u64 (b : Int))).set7 (.int .u64 (c : Int))).set8 (.int .i64 (q : Int)))
                  have HMc5 := Lib.hid ((((HMc4.out).set_other (g := w.heap.size) (by omega) 6 (.int .u64 (b : Int))).set_other (g := w.heap.size) (by omega) 7 (.int .u64 (c : Int))).set_other (g := w.heap.size) (by omega) 8 (.int .i64 (q : Int)))
                  have HBc5 := Lib.hid ((((HBc4.out).setCell (p := ⟨w.heap.size, 6, none⟩) (Nat.le_refl _) (.int .u64 (b : Int))).setCell (p := ⟨w.heap.size, 7, none⟩) (Nat.le_refl _) (.int .u64 (c : Int))).setCell (p := ⟨w.heap.size, 8, none⟩) (Nat.le_refl _) (.int .i64 (q : Int)))
                  refine hK.out _ _ trivial (fun _ => ?_)
                  clear hK K HNc4 HMc4 HBc4
                  clear c0 c1 c2 c3 c4 c5 c6 c7 c8 f0 f1 f2 f3 f4 f5 f6 f7 f8
                  try simp only [Act.put, List.setIfInBounds_toArray, List.set_cons_zero, List.set_cons_succ]
                  generalize (((wc4.setCell ⟨w.heap.size, 6, none⟩ (.int .u64 (b : Int))).setCell ⟨w.heap.size, 7, none⟩ (.int .u64 (c : Int))).setCell ⟨w.heap.size, 8, none⟩ (.int .i64 (q : Int))) = wc5 at *
                  refine wpAnyH_done (by kernel_rfl) ?_ _
                  simp only [Exit.then]
                  apply_assumption
                  obtain ⟨⟨c0, c1, c2, c3, c4, c5, c6, c7, c8⟩, f0, f1, f2, f3, f4, f5, f6, f7, f8⟩ := nine HNc5.out
                  obtain ⟨⟨d0, d1, d2, d3, d4, d5, d6, d7, d8⟩, g0, g1, g2, g3, g4, g5, g6, g7, g8⟩ := nine HMc5.out
                  go_wp2
                  refine bodyPost_ret (v := .agg #[.int .u64 (e : Int), .int .u64 (v : Int), .int .u64 (n : Int), .int .u64 (z : Int), .string r, .bool false, .int .u64 (b : Int), .int .u64 (c : Int), .int .i64 (q : Int)]) (by simp [results, Try.results16, go_sem, *]) rfl ⟨rfl, ?_⟩
                  exact set9 (by omega) HBc5.out _ _ _ _ _ _ _ _ _
                · exact AllReadyH.nil
              · exact AllReadyH.nil
            · exact AllReadyH.nil
          · exact AllReadyH.nil
        · exact AllReadyH.nil
      · refine AllReadyH.cons (o := ⟨some 15, _, _, _, _, _⟩) rfl (fun K hK => ?_) ?_
        · obtain ⟨⟨c0, c1, c2, c3, c4, c5, c6, c7, c8⟩, f0, f1, f2, f3, f4, f5, f6, f7, f8⟩ := nine HNc1.out
          go_simp
          refine hK.out _ _ trivial (fun _ => ?_)
          clear hK K
          clear c0 c1 c2 c3 c4 c5 c6 c7 c8 f0 f1 f2 f3 f4 f5 f6 f7 f8
          try simp only [Act.put, List.setIfInBounds_toArray, List.set_cons_zero, List.set_cons_succ]
          refine wpAnyH_take (i := 8) (oi := ⟨some 17, _, _, _, _, _⟩) (v := ?_) rfl (by kernel_rfl) (by kernel_rfl) (by kernel_rfl) (fun _ _ _ h => h) (Or.inl ⟨by rfl, by (intro w hSw; (try dsimp only at hSw); go_simp; try with_reducible rfl)⟩) trivial ?_
          try simp only [Act.put, List.setIfInBounds_toArray, List.set_cons_zero, List.set_cons_succ]
          refine wpAnyH_ready (rs := [4]) (by kernel_rfl) (by simp) ?_
          refine AllReadyH.cons (o := ⟨some 13, _, _, _, _, _⟩) rfl (fun K hK => ?_) ?_
          · go_simp
            refine (K31.out _).mono ?_
            rintro ze we ⟨rfl, rfl⟩
            try go_simp
            refine hK.out _ _ trivial (fun _ => ?_)
            clear hK K
            try simp only [Act.put, List.setIfInBounds_toArray, List.set_cons_zero, List.set_cons_succ]
            refine wpAnyH_ready (rs := [7]) (by kernel_rfl) (by simp) ?_
            refine AllReadyH.cons (o := ⟨some 16, _, _, _, _, _⟩) rfl (fun K hK => ?_) ?_
            · go_simp
              refine (K36.out _).mono ?_
              rintro ze wc2 ⟨rfl, hbn⟩
              try go_simp
              have HNc2 := Lib.hid (HNc1.out.later hbn)
              have HMc2 := Lib.hid (HMc1.out.later hbn)
              have HBc2 := Lib.hid (HBc1.out.trans (hbn.mono HBc1.out.size))
              refine hK.out _ _ trivial (fun _ => ?_)
              clear hK K hbn HNc1 HMc1 HBc1
              try simp only [Act.put, List.setIfInBounds_toArray, List.set_cons_zero, List.set_cons_succ]
              refine wpAnyH_ready (rs := [9]) (by kernel_rfl) (by simp) ?_
              refine AllReadyH.cons (o := ⟨none, _, _, _, _, _⟩) rfl (fun K hK => ?_) ?_
              · obtain ⟨⟨c0, c1, c2, c3, c4, c5, c6, c7, c8⟩, f0, f1, f2, f3, f4, f5, f6, f7, f8⟩ := nine HNc2.out
                go_simp
                have HNc3 := Lib.hid ((HNc2.out).set5 (.bool false))
                have HMc3 := Lib.hid ((HMc2.out).set_other (g := w.heap.size) (by omega) 5 (.bool false))
                have HBc3 := Lib.hid ((HBc2.out).setCell (p := ⟨w.heap.size, 5, none⟩) (Nat.le_refl _) (.bool false))
                refine hK.out _ _ trivial (fun _ => ?_)
                clear hK K HNc2 HMc2 HBc2
                clear c0 c1 c2 c3 c4 c5 c6 c7 c8 f0 f1 f2 f3 f4 f5 f6 f7 f8
                try simp only [Act.put, List.setIfInBounds_toArray, List.set_cons_zero, List.set_cons_succ]
                generalize (wc2.setCell ⟨w.heap.size, 5, none⟩ (.bool false)) = wc3 at *
                refine wpAnyH_take (i := 10) (oi := ⟨some 18, _, _, _, _, _⟩) (v := ?_) rfl (by kernel_rfl) (by kernel_rfl) (by kernel_rfl) (fun _ _ _ h => h) (Or.inl ⟨by rfl, by (intro w hSw; (try dsimp only at hSw); go_simp; try with_reducible rfl)⟩) trivial ?_
                try simp only [Act.put, List.setIfInBounds_toArray, List.set_cons_zero, List.set_cons_succ]
                refine wpAnyH_ready (rs := [11]) (by kernel_rfl) (by simp) ?_
                refine AllReadyH.cons (o := ⟨none, _, _, _, _, _⟩) rfl (fun K hK => ?_) ?_
                · obtain ⟨⟨c0, c1, c2, c3, c4, c5, c6, c7, c8⟩, f0, f1, f2, f3, f4, f5, f6, f7, f8⟩ := nine HNc3.out
                  go_simp
                  have HNc4 := Lib.hid ((HNc3.out).set3 (.int .u64 (z : Int)))
                  have HMc4 := Lib.hid ((HMc3.out).set_other (g := w.heap.size) (by omega) 3 (.int .u64 (z : Int)))
                  have HBc4 := Lib.hid ((HBc3.out).setCell (p := ⟨w.heap.size, 3, none⟩) (Nat.le_refl _) (.int .u64 (z : Int)))
                  refine hK.out _ _ trivial (fun _ => ?_)
                  clear hK K HNc3 HMc3 HBc3
                  clear c0 c1 c2 c3 c4 c5 c6 c7 c8 f0 f1 f2 f3 f4 f5 f6 f7 f8
                  try simp only [Act.put, List.setIfInBounds_toArray, List.set_cons_zero, List.set_cons_succ]
                  generalize (wc3.setCell ⟨w.heap.size, 3, none⟩ (.int .u64 (z : Int))) = wc4 at *
                  refine wpAnyH_take (i := 12) (oi := ⟨some 19, _, _, _, _, _⟩) (v := ?_) rfl (by kernel_rfl) (by kernel_rfl) (by kernel_rfl) (fun _ _ _ h => h) (Or.inl ⟨by rfl, by (intro w hSw; (try dsimp only at hSw); go_simp; try with_reducible rfl)⟩) trivial ?_
                  try simp only [Act.put, List.setIfInBounds_toArray, List.set_cons_zero, List.set_cons_succ]
                  refine wpAnyH_ready (rs := [13]) (by kernel_rfl) (by simp) ?_
                  refine AllReadyH.cons (o := ⟨none, _, _, _, _, _⟩) rfl (fun K hK => ?_) ?_
                  · obtain ⟨⟨c0, c1, c2, c3, c4, c5, c6, c7, c8⟩, f0, f1, f2, f3, f4, f5, f6, f7, f8⟩ := nine HNc4.out
                    go_simp
                    have HNc5 := Lib.hid ((((HNc4.out).set6 (.int .u64 (b : Int))).set7 (.int .u64 (c : Int))).set8 (.int .i64 (q : Int)))
                    have HMc5 := Lib.hid ((((HMc4.out).set_other (g := w.heap.size) (by omega) 6 (.int .u64 (b : Int))).set_other (g := w.heap.size) (by omega) 7 (.int .u64 (c : Int))).set_other (g := w.heap.size) (by omega) 8 (.int .i64 (q : Int)))
                    have HBc5 := Lib.hid ((((HBc4.out).setCell (p := ⟨w.heap.size, 6, none⟩) (Nat.le_refl _) (.int .u64 (b : Int))).setCell (p := ⟨w.heap.size, 7, none⟩) (Nat.le_refl _) (.int .u64 (c : Int))).setCell (p := ⟨w.heap.size, 8, none⟩) (Nat.le_refl _) (.int .i64 (q : Int)))
                    refine hK.out _ _ trivial (fun _ => ?_)
                    clear hK K HNc4 HMc4 HBc4
                    clear c0 c1 c2 c3 c4 c5 c6 c7 c8 f0 f1 f2 f3 f4 f5 f6 f7 f8
                    try simp only [Act.put, List.setIfInBounds_toArray, List.set_cons_zero, List.set_cons_succ]
                    generalize (((wc4.setCell ⟨w.heap.size, 6, none⟩ (.int .u64 (b : Int))).setCell ⟨w.heap.size, 7, none⟩ (.int .u64 (c : Int))).setCell ⟨w.heap.size, 8, none⟩ (.int .i64 (q : Int))) = wc5 at *
                    refine wpAnyH_done (by kernel_rfl) ?_ _
                    simp only [Exit.then]
                    apply_assumption
                    obtain ⟨⟨c0, c1, c2, c3, c4, c5, c6, c7, c8⟩, f0, f1, f2, f3, f4, f5, f6, f7, f8⟩ := nine HNc5.out
                    obtain ⟨⟨d0, d1, d2, d3, d4, d5, d6, d7, d8⟩, g0, g1, g2, g3, g4, g5, g6, g7, g8⟩ := nine HMc5.out
                    go_wp2
                    refine bodyPost_ret (v := .agg #[.int .u64 (e : Int), .int .u64 (v : Int), .int .u64 (n : Int), .int .u64 (z : Int), .string r, .bool false, .int .u64 (b : Int), .int .u64 (c : Int), .int .i64 (q : Int)]) (by simp [results, Try.results16, go_sem, *]) rfl ⟨rfl, ?_⟩
                    exact set9 (by omega) HBc5.out _ _ _ _ _ _ _ _ _
                  · exact AllReadyH.nil
                · exact AllReadyH.nil
              · exact AllReadyH.nil
            · exact AllReadyH.nil
          · exact AllReadyH.nil
        · exact AllReadyH.nil
    · refine AllReadyH.cons (o := ⟨some 15, _, _, _, _, _⟩) rfl (fun K hK => ?_) ?_
      · obtain ⟨⟨c0, c1, c2, c3, c4, c5, c6, c7, c8⟩, f0, f1, f2, f3, f4, f5, f6, f7, f8⟩ := nine HN00.out
        go_simp
        refine hK.out _ _ trivial (fun _ => ?_)
        clear hK K
        clear c0 c1 c2 c3 c4 c5 c6 c7 c8 f0 f1 f2 f3 f4 f5 f6 f7 f8
        try simp only [Act.put, List.setIfInBounds_toArray, List.set_cons_zero, List.set_cons_succ]
        refine wpAnyH_take (i := 8) (oi := ⟨some 17, _, _, _, _, _⟩) (v := ?_) rfl (by kernel_rfl) (by kernel_rfl) (by kernel_rfl) (fun _ _ _ h => h) (Or.inl ⟨by rfl, by (intro w hSw; (try dsimp only at hSw); go_simp; try with_reducible rfl)⟩) trivial ?_
        try simp only [Act.put, List.setIfInBounds_toArray, List.set_cons_zero, List.set_cons_succ]
        refine wpAnyH_ready (rs := [3]) (by kernel_rfl) (by simp) ?_
        refine AllReadyH.cons (o := ⟨some 12, _, _, _, _, _⟩) rfl (fun K hK => ?_) ?_
        · go_simp
          refine (K35.out _).mono ?_
          rintro ze wc1 ⟨rfl, hbn⟩
          try go_simp
          have HNc1 := Lib.hid (HN00.out.later hbn)
          have HMc1 := Lib.hid (HM00.out.later hbn)
          have HBc1 := Lib.hid (HB00.out.trans (hbn.mono HB00.out.size))
          refine hK.out _ _ trivial (fun _ => ?_)
          clear hK K hbn HN00 HM00 HB00
          try simp only [Act.put, List.setIfInBounds_toArray, List.set_cons_zero, List.set_cons_succ]
          refine wpAnyH_ready (rs := [4]) (by kernel_rfl) (by simp) ?_
          refine AllReadyH.cons (o := ⟨some 13, _, _, _, _, _⟩) rfl (fun K hK => ?_) ?_
          · go_simp
            refine (K31.out _).mono ?_
            rintro ze we ⟨rfl, rfl⟩
            try go_simp
            refine hK.out _ _ trivial (fun _ => ?_)
            clear hK K
            try simp only [Act.put, List.setIfInBounds_toArray, List.set_cons_zero, List.set_cons_succ]
            refine wpAnyH_ready (rs := [7]) (by kernel_rfl) (by simp) ?_
            refine AllReadyH.cons (o := ⟨some 16, _, _, _, _, _⟩) rfl (fun K hK => ?_) ?_
            · go_simp
              refine (K36.out _).mono ?_
              rintro ze wc2 ⟨rfl, hbn⟩
              try go_simp
              have HNc2 := Lib.hid (HNc1.out.later hbn)
              have HMc2 := Lib.hid (HMc1.out.later hbn)
              have HBc2 := Lib.hid (HBc1.out.trans (hbn.mono HBc1.out.size))
              refine hK.out _ _ trivial (fun _ => ?_)
              clear hK K hbn HNc1 HMc1 HBc1
              try simp only [Act.put, List.setIfInBounds_toArray, List.set_cons_zero, List.set_cons_succ]
              refine wpAnyH_ready (rs := [9]) (by kernel_rfl) (by simp) ?_
              refine AllReadyH.cons (o := ⟨none, _, _, _, _, _⟩) rfl (fun K hK => ?_) ?_
              · obtain ⟨⟨c0, c1, c2, c3, c4, c5, c6, c7, c8⟩, f0, f1, f2, f3, f4, f5, f6, f7, f8⟩ := nine HNc2.out
                go_simp
                have HNc3 := Lib.hid ((HNc2.out).set5 (.bool false))
                have HMc3 := Lib.hid ((HMc2.out).set_other (g := w.heap.size) (by omega) 5 (.bool false))
                have HBc3 := Lib.hid ((HBc2.out).setCell (p := ⟨w.heap.size, 5, none⟩) (Nat.le_refl _) (.bool false))
                refine hK.out _ _ trivial (fun _ => ?_)
                clear hK K HNc2 HMc2 HBc2
                clear c0 c1 c2 c3 c4 c5 c6 c7 c8 f0 f1 f2 f3 f4 f5 f6 f7 f8
                try simp only [Act.put, List.setIfInBounds_toArray, List.set_cons_zero, List.set_cons_succ]
                generalize (wc2.setCell ⟨w.heap.size, 5, none⟩ (.bool false)) = wc3 at *
                refine wpAnyH_take (i := 10) (oi := ⟨some 18, _, _, _, _, _⟩) (v := ?_) rfl (by kernel_rfl) (by kernel_rfl) (by kernel_rfl) (fun _ _ _ h => h) (Or.inl ⟨by rfl, by (intro w hSw; (try dsimp only at hSw); go_simp; try with_reducible rfl)⟩) trivial ?_
                try simp only [Act.put, List.setIfInBounds_toArray, List.set_cons_zero, List.set_cons_succ]
                refine wpAnyH_ready (rs := [11]) (by kernel_rfl) (by simp) ?_
                refine AllReadyH.cons (o := ⟨none, _, _, _, _, _⟩) rfl (fun K hK => ?_) ?_
                · obtain ⟨⟨c0, c1, c2, c3, c4, c5, c6, c7, c8⟩, f0, f1, f2, f3, f4, f5, f6, f7, f8⟩ := nine HNc3.out
                  go_simp
                  have HNc4 := Lib.hid ((HNc3.out).set3 (.int .u64 (z : Int)))
                  have HMc4 := Lib.hid ((HMc3.out).set_other (g := w.heap.size) (by omega) 3 (.int .u64 (z : Int)))
                  have HBc4 := Lib.hid ((HBc3.out).setCell (p := ⟨w.heap.size, 3, none⟩) (Nat.le_refl _) (.int .u64 (z : Int)))
                  refine hK.out _ _ trivial (fun _ => ?_)
                  clear hK K HNc3 HMc3 HBc3
                  clear c0 c1 c2 c3 c4 c5 c6 c7 c8 f0 f1 f2 f3 f4 f5 f6 f7 f8
                  try simp only [Act.put, List.setIfInBounds_toArray, List.set_cons_zero, List.set_cons_succ]
                  generalize (wc3.setCell ⟨w.heap.size, 3, none⟩ (.int .u64 (z : Int))) = wc4 at *
                  refine wpAnyH_take (i := 12) (oi := ⟨some 19, _, _, _, _, _⟩) (v := ?_) rfl (by kernel_rfl) (by kernel_rfl) (by kernel_rfl) (fun _ _ _ h => h) (Or.inl ⟨by rfl, by (intro w hSw; (try dsimp only at hSw); go_simp; try with_reducible rfl)⟩) trivial ?_
                  try simp only [Act.put, List.setIfInBounds_toArray, List.set_cons_zero, List.set_cons_succ]
                  refine wpAnyH_ready (rs := [13]) (by kernel_rfl) (by simp) ?_
                  refine AllReadyH.cons (o := ⟨none, _, _, _, _, _⟩) rfl (fun K hK => ?_) ?_
                  · obtain ⟨⟨c0, c1, c2, c3, c4, c5, c6, c7, c8⟩, f0, f1, f2, f3, f4, f5, f6, f7, f8⟩ := nine HNc4.out
                    go_simp
                    have HNc5 := Lib.hid ((((HNc4.out).set6 (.int .u64 (b : Int))).set7 (.int .u64 (c : Int))).set8 (.int .i64 (q : Int)))
                    have HMc5 := Lib.hid ((((HMc4.out).set_other (g := w.heap.size) (by omega) 6 (.int .u64 (b : Int))).set_other (g := w.heap.size) (by omega) 7 (.int .u64 (c : Int))).set_other (g := w.heap.size) (by omega) 8 (.int .i64 (q : Int)))
                    have HBc5 := Lib.hid ((((HBc4.out).setCell (p := ⟨w.heap.size, 6, none⟩) (Nat.le_refl _) (.int .u64 (b : Int))).setCell (p := ⟨w.heap.size, 7, none⟩) (Nat.le_refl _) (.int .u64 (c : Int))).setCell (p := ⟨w.heap.size, 8, none⟩) (Nat.le_refl _) (.int .i64 (q : Int)))
                    refine hK.out _ _ trivial (fun _ => ?_)
                    clear hK K HNc4 HMc4 HBc4
                    clear c0 c1 c2 c3 c4 c5 c6 c7 c8 f0 f1 f2 f3 f4 f5 f6 f7 f8
                    try simp only [Act.put, List.setIfInBounds_toArray, List.set_cons_zero, List.set_cons_succ]
                    generalize (((wc4.setCell ⟨w.heap.size, 6, none⟩ (.int .u64 (b : Int))).setCell ⟨w.heap.size, 7, none⟩ (.int .u64 (c : Int))).setCell ⟨w.heap.size, 8, none⟩ (.int .i64 (q : Int))) = wc5 at *
                    refine wpAnyH_done (by kernel_rfl) ?_ _
                    simp only [Exit.then]
                    apply_assumption
                    obtain ⟨⟨c0, c1, c2, c3, c4, c5, c6, c7, c8⟩, f0, f1, f2, f3, f4, f5, f6, f7, f8⟩ := nine HNc5.out
                    obtain ⟨⟨d0, d1, d2, d3, d4, d5, d6, d7, d8⟩, g0, g1, g2, g3, g4, g5, g6, g7, g8⟩ := nine HMc5.out
                    go_wp2
                    refine bodyPost_ret (v := .agg #[.int .u64 (e : Int), .int .u64 (v : Int), .int .u64 (n : Int), .int .u64 (z : Int), .string r, .bool false, .int .u64 (b : Int), .int .u64 (c : Int), .int .i64 (q : Int)]) (by simp [results, Try.results16, go_sem, *]) rfl ⟨rfl, ?_⟩
                    exact set9 (by omega) HBc5.out _ _ _ _ _ _ _ _ _
                  · exact AllReadyH.nil
                · exact AllReadyH.nil
              · exact AllReadyH.nil
            · exact AllReadyH.nil
          · exact AllReadyH.nil
        · exact AllReadyH.nil
      · exact AllReadyH.nil
  · refine AllReadyH.cons (o := ⟨some 15, _, _, _, _, _⟩) rfl (fun K hK => ?_) ?_
    · obtain ⟨⟨c0, c1, c2, c3, c4, c5, c6, c7, c8⟩, f0, f1, f2, f3, f4, f5, f6, f7, f8⟩ := nine HN00.out
      go_simp
      refine hK.out _ _ trivial (fun _ => ?_)
      clear hK K
      clear c0 c1 c2 c3 c4 c5 c6 c7 c8 f0 f1 f2 f3 f4 f5 f6 f7 f8
      try simp only [Act.put, List.setIfInBounds_toArray, List.set_cons_zero, List.set_cons_succ]
      refine wpAnyH_ready (rs := [2]) (by kernel_rfl) (by simp) ?_
      refine AllReadyH.cons (o := ⟨some 11, _, _, _, _, _⟩) rfl (fun K hK => ?_) ?_
      · obtain ⟨⟨c0, c1, c2, c3, c4, c5, c6, c7, c8⟩, f0, f1, f2, f3, f4, f5, f6, f7, f8⟩ := nine HN00.out
        go_simp
        refine hK.out _ _ trivial (fun _ => ?_)
        clear hK K
        clear c0 c1 c2 c3 c4 c5 c6 c7 c8 f0 f1 f2 f3 f4 f5 f6 f7 f8
        try simp only [Act.put, List.setIfInBounds_toArray, List.set_cons_zero, List.set_cons_succ]
        refine wpAnyH_take (i := 8) (oi := ⟨some 17, _, _, _, _, _⟩) (v := ?_) rfl (by kernel_rfl) (by kernel_rfl) (by kernel_rfl) (fun _ _ _ h => h) (Or.inl ⟨by rfl, by (intro w hSw; (try dsimp only at hSw); go_simp; try with_reducible rfl)⟩) trivial ?_
        try simp only [Act.put, List.setIfInBounds_toArray, List.set_cons_zero, List.set_cons_succ]
        refine wpAnyH_ready (rs := [3]) (by kernel_rfl) (by simp) ?_
        refine AllReadyH.cons (o := ⟨some 12, _, _, _, _, _⟩) rfl (fun K hK => ?_) ?_
        · go_simp
          refine (K35.out _).mono ?_
          rintro ze wc1 ⟨rfl, hbn⟩
          try go_simp
          have HNc1 := Lib.hid (HN00.out.later hbn)
          have HMc1 := Lib.hid (HM00.out.later hbn)
          have HBc1 := Lib.hid (HB00.out.trans (hbn.mono HB00.out.size))
          refine hK.out _ _ trivial (fun _ => ?_)
          clear hK K hbn HN00 HM00 HB00
          try simp only [Act.put, List.setIfInBounds_toArray, List.set_cons_zero, List.set_cons_succ]
          refine wpAnyH_ready (rs := [4]) (by kernel_rfl) (by simp) ?_
          refine AllReadyH.cons (o := ⟨some 13, _, _, _, _, _⟩) rfl (fun K hK => ?_) ?_
          · go_simp
            refine (K31.out _).mono ?_
            rintro ze we ⟨rfl, rfl⟩
            try go_simp
            refine hK.out _ _ trivial (fun _ => ?_)
            clear hK K
            try simp only [Act.put, List.setIfInBounds_toArray, List.set_cons_zero, List.set_cons_succ]
            refine wpAnyH_ready (rs := [7]) (by kernel_rfl) (by simp) ?_
            refine AllReadyH.cons (o := ⟨some 16, _, _, _, _, _⟩) rfl (fun K hK => ?_) ?_
            · go_simp
              refine (K36.out _).mono ?_
              rintro ze wc2 ⟨rfl, hbn⟩
              try go_simp
              have HNc2 := Lib.hid (HNc1.out.later hbn)
              have HMc2 := Lib.hid (HMc1.out.later hbn)
              have HBc2 := Lib.hid (HBc1.out.trans (hbn.mono HBc1.out.size))
              refine hK.out _ _ trivial (fun _ => ?_)
              clear hK K hbn HNc1 HMc1 HBc1
              try simp only [Act.put, List.setIfInBounds_toArray, List.set_cons_zero, List.set_cons_succ]
              refine wpAnyH_ready (rs := [9]) (by kernel_rfl) (by simp) ?_
              refine AllReadyH.cons (o := ⟨none, _, _, _, _, _⟩) rfl (fun K hK => ?_) ?_
              · obtain ⟨⟨c0, c1, c2, c3, c4, c5, c6, c7, c8⟩, f0, f1, f2, f3, f4, f5, f6, f7, f8⟩ := nine HNc2.out
                go_simp
                have HNc3 := Lib.hid ((HNc2.out).set5 (.bool false))
                have HMc3 := Lib.hid ((HMc2.out).set_other (g := w.heap.size) (by omega) 5 (.bool false))
                have HBc3 := Lib.hid ((HBc2.out).setCell (p := ⟨w.heap.size, 5, none⟩) (Nat.le_refl _) (.bool false))
                refine hK.out _ _ trivial (fun _ => ?_)
                clear hK K HNc2 HMc2 HBc2
                clear c0 c1 c2 c3 c4 c5 c6 c7 c8 f0 f1 f2 f3 f4 f5 f6 f7 f8
                try simp only [Act.put, List.setIfInBounds_toArray, List.set_cons_zero, List.set_cons_succ]
                generalize (wc2.setCell ⟨w.heap.size, 5, none⟩ (.bool false)) = wc3 at *
                refine wpAnyH_take (i := 10) (oi := ⟨some 18, _, _, _, _, _⟩) (v := ?_) rfl (by kernel_rfl) (by kernel_rfl) (by kernel_rfl) (fun _ _ _ h => h) (Or.inl ⟨by rfl, by (intro w hSw; (try dsimp only at hSw); go_simp; try with_reducible rfl)⟩) trivial ?_
                try simp only [Act.put, List.setIfInBounds_toArray, List.set_cons_zero, List.set_cons_succ]
                refine wpAnyH_ready (rs := [11]) (by kernel_rfl) (by simp) ?_
                refine AllReadyH.cons (o := ⟨none, _, _, _, _, _⟩) rfl (fun K hK => ?_) ?_
                · obtain ⟨⟨c0, c1, c2, c3, c4, c5, c6, c7, c8⟩, f0, f1, f2, f3, f4, f5, f6, f7, f8⟩ := nine HNc3.out
                  go_simp
                  have HNc4 := Lib.hid ((HNc3.out).set3 (.int .u64 (z : Int)))
                  have HMc4 := Lib.hid ((HMc3.out).set_other (g := w.heap.size) (by omega) 3 (.int .u64 (z : Int)))
                  have HBc4 := Lib.hid ((HBc3.out).setCell (p := ⟨w.heap.size, 3, none⟩) (Nat.le_refl _) (.int .u64 (z : Int)))
                  refine hK.out _ _ trivial (fun _ => ?_)
                  clear hK K HNc3 HMc3 HBc3
                  clear c0 c1 c2 c3 c4 c5 c6 c7 c8 f0 f1 f2 f3 f4 f5 f6 f7 f8
                  try simp only [Act.put, List.setIfInBounds_toArray, List.set_cons_zero, List.set_cons_succ]
                  generalize (wc3.setCell ⟨w.heap.size, 3, none⟩ (.int .u64 (z : Int))) = wc4 at *
                  refine wpAnyH_take (i := 12) (oi := ⟨some 19, _, _, _, _, _⟩) (v := ?_) rfl (by kernel_rfl) (by kernel_rfl) (by kernel_rfl) (fun _ _ _ h => h) (Or.inl ⟨by rfl, by (intro w hSw; (try dsimp only at hSw); go_simp; try with_reducible rfl)⟩) trivial ?_
                  try simp only [Act.put, List.setIfInBounds_toArray, List.set_cons_zero, List.set_cons_succ]
                  refine wpAnyH_ready (rs := [13]) (by kernel_rfl) (by simp) ?_
                  refine AllReadyH.cons (o := ⟨none, _, _, _, _, _⟩) rfl (fun K hK => ?_) ?_
                  · obtain ⟨⟨c0, c1, c2, c3, c4, c5, c6, c7, c8⟩, f0, f1, f2, f3, f4, f5, f6, f7, f8⟩ := nine HNc4.out
                    go_simp
                    have HNc5 := Lib.hid ((((HNc4.out).set6 (.int .u64 (b : Int))).set7 (.int .u64 (c : Int))).set8 (.int .i64 (q : Int)))
                    have HMc5 := Lib.hid ((((HMc4.out).set_other (g := w.heap.size) (by omega) 6 (.int .u64 (b : Int))).set_other (g := w.heap.size) (by omega) 7 (.int .u64 (c : Int))).set_other (g := w.heap.size) (by omega) 8 (.int .i64 (q : Int)))
                    have HBc5 := Lib.hid ((((HBc4.out).setCell (p := ⟨w.heap.size, 6, none⟩) (Nat.le_refl _) (.int .u64 (b : Int))).setCell (p := ⟨w.heap.size, 7, none⟩) (Nat.le_refl _) (.int .u64 (c : Int))).setCell (p := ⟨w.heap.size, 8, none⟩) (Nat.le_refl _) (.int .i64 (q : Int)))
                    refine hK.out _ _ trivial (fun _ => ?_)
                    clear hK K HNc4 HMc4 HBc4
                    clear c0 c1 c2 c3 c4 c5 c6 c7 c8 f0 f1 f2 f3 f4 f5 f6 f7 f8
                    try simp only [Act.put, List.setIfInBounds_toArray, List.set_cons_zero, List.set_cons_succ]
                    generalize (((wc4.setCell ⟨w.heap.size, 6, none⟩ (.int .u64 (b : Int))).setCell ⟨w.heap.size, 7, none⟩ (.int .u64 (c : Int))).setCell ⟨w.heap.size, 8, none⟩ (.int .i64 (q : Int))) = wc5 at *
                    refine wpAnyH_done (by kernel_rfl) ?_ _
                    simp only [Exit.then]
                    apply_assumption
                    obtain ⟨⟨c0, c1, c2, c3, c4, c5, c6, c7, c8⟩, f0, f1, f2, f3, f4, f5, f6, f7, f8⟩ := nine HNc5.out
                    obtain ⟨⟨d0, d1, d2, d3, d4, d5, d6, d7, d8⟩, g0, g1, g2, g3, g4, g5, g6, g7, g8⟩ := nine HMc5.out
                    go_wp2
                    refine bodyPost_ret (v := .agg #[.int .u64 (e : Int), .int .u64 (v : Int), .int .u64 (n : Int), .int .u64 (z : Int), .string r, .bool false, .int .u64 (b : Int), .int .u64 (c : Int), .int .i64 (q : Int)]) (by simp [results, Try.results16, go_sem, *]) rfl ⟨rfl, ?_⟩
                    exact set9 (by omega) HBc5.out _ _ _ _ _ _ _ _ _
                  · exact AllReadyH.nil
                · exact AllReadyH.nil
              · exact AllReadyH.nil
            · exact AllReadyH.nil
          · exact AllReadyH.nil
        · exact AllReadyH.nil
      · exact AllReadyH.nil
    · exact AllReadyH.nil
end Go.Proofs.Ytdojepkmjifoeaa
