/- Sessions: Take of an offer. -/
import Derived.Test.YtdojepkmjifoeaaJ46
set_option linter.unusedVariables false
set_option linter.unusedSimpArgs false
namespace Go.Proofs.Ytdojepkmjifoeaa
open Go.RowKit

set_option maxRecDepth 100000 in
set_option maxHeartbeats 32000000 in
theorem take_ok (s : Ss) (hs : s.ok) (tx : ByteArray) (ht : tx.size ≤ 1000000000) (hm : okM tx) (hk : pK tx = 2) (ver nn : Nat) (hml : msN tx = [ver, nn]) (hc : knC s (pE tx) nn = 0) (w : World) : Calls Try.prog 14 #[s.val, .string tx] w fun z w' => z = .returned (.tuple #[({ s with n := nn, r := ⟨#[]⟩, t := 0 } : Ss).val, .agg #[.int .u64 (ver : Int), .int .u64 (nn : Int), .string (msB tx)], .string ⟨#[]⟩, .int .i64 0]) ∧ Below w.heap.size w w' := by
  have K30 := Lib.hid (fun w => own_any s hs.r w)
  obtain ⟨e, v, n, x, r, o, b, c, t⟩ := s
  have K9 := Lib.hid (fun w => read_ok tx ht hm w)
  rw [hk, hml] at K9
  simp only [List.length_cons, List.length_nil, Nat.zero_add, Nat.reduceAdd] at K9
  have K32 := Lib.hid (fun w => known_any ⟨e, v, n, x, r, o, b, c, t⟩ (pE tx) nn hs.r w)
  unfold Ss.val at K32
  simp only at K32
  have hR : knR ⟨e, v, n, x, r, o, b, c, t⟩ (pE tx) nn = ⟨#[]⟩ := by unfold knR; rw [if_neg (by rw [hc]; omega)]
  rw [hc, hR] at K32
  have K33 := Lib.hid (fun w => Bk.reset_any b c t w)
  clear hR hc
  generalize pE tx = ep at *
  generalize msB tx = mb at *
  unfold Ss.val at K30 ⊢
  simp only at K30 ⊢
  obtain ⟨w0, hw0⟩ : ∃ w0, w0 = ((((w.alloc (.cells #[.int .u64 (e : Int), .int .u64 (v : Int), .int .u64 (n : Int), .int .u64 (x : Int), .string r, .bool o, .int .u64 (b : Int), .int .u64 (c : Int), .int .i64 t] 39)).alloc (.cells #[.int .u64 0, .int .u64 0, .int .u64 0, .int .u64 0, .string ⟨#[]⟩, .bool false, .int .u64 0, .int .u64 0, .int .i64 0] 39)).alloc (.cells #[.int .u64 0, .int .u64 0, .string ⟨#[]⟩] 47)).alloc (.cells #[.int .u64 0, .int .u64 0, .string ⟨#[]⟩] 47)) := ⟨_, rfl⟩
  have HB0 := Lib.hid (show Below w.heap.size w w0 by rw [hw0]; exact Bk.bt (Bk.bt (Bk.bt (alloc_below _ _))))
  have HN0 := Lib.hid (show N9 w0 w.heap.size (.int .u64 (e : Int)) (.int .u64 (v : Int)) (.int .u64 (n : Int)) (.int .u64 (x : Int)) (.string r) (.bool o) (.int .u64 (b : Int)) (.int .u64 (c : Int)) (.int .i64 t) by rw [hw0]; exact (((N9.new _ _ _ _ _ _ _ _ _ _).later (alloc_below _ _)).later (alloc_below _ _)).later (alloc_below _ _))
  have HM0 := Lib.hid (show N9 w0 (w.heap.size + 1) (.int .u64 0) (.int .u64 0) (.int .u64 0) (.int .u64 0) (.string ⟨#[]⟩) (.bool false) (.int .u64 0) (.int .u64 0) (.int .i64 0) by
    rw [hw0]; have h := N9.new (w.alloc (.cells #[.int .u64 (e : Int), .int .u64 (v : Int), .int .u64 (n : Int), .int .u64 (x : Int), .string r, .bool o, .int .u64 (b : Int), .int .u64 (c : Int), .int .i64 t] 39)) (.int .u64 0) (.int .u64 0) (.int .u64 0) (.int .u64 0) (.string ⟨#[]⟩) (.bool false) (.int .u64 0) (.int .u64 0) (.int .i64 0)
    have e : (w.alloc (.cells #[.int .u64 (e : Int), .int .u64 (v : Int), .int .u64 (n : Int), .int .u64 (x : Int), .string r, .bool o, .int .u64 (b : Int), .int .u64 (c : Int), .int .i64 t] 39)).heap.size = w.heap.size + 1 := by simp
    rw [e] at h; exact (h.later (alloc_below _ _)).later (alloc_below _ _))
  have HO0 := Lib.hid (show w0.heap[w.heap.size + 1 + 1]? = some (.cells #[.int .u64 0, .int .u64 0, .string ⟨#[]⟩] 47 (0, 0)) by
    rw [hw0]; have h := heap_alloc_new ((w.alloc (.cells #[.int .u64 (e : Int), .int .u64 (v : Int), .int .u64 (n : Int), .int .u64 (x : Int), .string r, .bool o, .int .u64 (b : Int), .int .u64 (c : Int), .int .i64 t] 39)).alloc (.cells #[.int .u64 0, .int .u64 0, .int .u64 0, .int .u64 0, .string ⟨#[]⟩, .bool false, .int .u64 0, .int .u64 0, .int .i64 0] 39)) (.cells #[.int .u64 0, .int .u64 0, .string ⟨#[]⟩] 47)
    have e : ((w.alloc (.cells #[.int .u64 (e : Int), .int .u64 (v : Int), .int .u64 (n : Int), .int .u64 (x : Int), .string r, .bool o, .int .u64 (b : Int), .int .u64 (c : Int), .int .i64 t] 39)).alloc (.cells #[.int .u64 0, .int .u64 0, .int .u64 0, .int .u64 0, .string ⟨#[]⟩, .bool false, .int .u64 0, .int .u64 0, .int .i64 0] 39)).heap.size = w.heap.size + 1 + 1 := by simp
    rw [e] at h
    exact ((alloc_below _ _).block _ (lt_of_heap h)).trans h)
  have HQ0 := Lib.hid (show w0.heap[w.heap.size + 1 + 1 + 1]? = some (.cells #[.int .u64 0, .int .u64 0, .string ⟨#[]⟩] 47 (0, 0)) by
    rw [hw0]; have h := heap_alloc_new (((w.alloc (.cells #[.int .u64 (e : Int), .int .u64 (v : Int), .int .u64 (n : Int), .int .u64 (x : Int), .string r, .bool o, .int .u64 (b : Int), .int .u64 (c : Int), .int .i64 t] 39)).alloc (.cells #[.int .u64 0, .int .u64 0, .int .u64 0, .int .u64 0, .string ⟨#[]⟩, .bool false, .int .u64 0, .int .u64 0, .int .i64 0] 39)).alloc (.cells #[.int .u64 0, .int .u64 0, .string ⟨#[]⟩] 47)) (.cells #[.int .u64 0, .int .u64 0, .string ⟨#[]⟩] 47)
    have e : (((w.alloc (.cells #[.int .u64 (e : Int), .int .u64 (v : Int), .int .u64 (n : Int), .int .u64 (x : Int), .string r, .bool o, .int .u64 (b : Int), .int .u64 (c : Int), .int .i64 t] 39)).alloc (.cells #[.int .u64 0, .int .u64 0, .int .u64 0, .int .u64 0, .string ⟨#[]⟩, .bool false, .int .u64 0, .int .u64 0, .int .i64 0] 39)).alloc (.cells #[.int .u64 0, .int .u64 0, .string ⟨#[]⟩] 47)).heap.size = w.heap.size + 1 + 1 + 1 := by simp
    rw [e] at h
    exact h)
  clear hs ht hm hk hml
  go_enter Try.func14, Try.ntmps14
  go_wp2_with fail
  refine wp_scope_jumps 0 (fun _ _ => False) (fun _ _ => 0) rfl ?_ ?_
  · go_upto_region 5 with (first
      | (rw [← hw0]; clear hw0; obtain ⟨⟨c0, c1, c2, c3, c4, c5, c6, c7, c8⟩, f0, f1, f2, f3, f4, f5, f6, f7, f8⟩ := nine HN0.out)
      | (go_at_call 9; ((with_reducible refine (K9.out _).mono ?_); rintro z w1 ⟨ρ, oN, capN, rfl, hpa⟩; have HPA := Lib.hid hpa; have hb1 := hpa.1; clear hpa; have HB1 := Lib.hid (HB0.out.trans (hb1.mono HB0.out.size)); have HN1 := Lib.hid (HN0.out.later hb1); have HM1 := Lib.hid (HM0.out.later hb1); have HO1 := Lib.hid ((hb1.block _ (lt_of_heap HO0.out)).trans HO0.out); have HQ1 := Lib.hid ((hb1.block _ (lt_of_heap HQ0.out)).trans HQ0.out); clear c0 c1 c2 c3 c4 c5 c6 c7 c8 f0 f1 f2 f3 f4 f5 f6 f7 f8; obtain ⟨⟨c0, c1, c2, c3, c4, c5, c6, c7, c8⟩, f0, f1, f2, f3, f4, f5, f6, f7, f8⟩ := nine HN1.out; clear hb1))
      | (go_at_call 30; ((with_reducible refine (K30.out _).mono ?_); rintro z w2 ⟨rfl, hb2⟩; have HB2 := Lib.hid (HB1.out.trans (hb2.mono HB1.out.size)); have HN2 := Lib.hid (HN1.out.later hb2); have HM2 := Lib.hid (HM1.out.later hb2); have HO2 := Lib.hid ((hb2.block _ (lt_of_heap HO1.out)).trans HO1.out); have HQ2 := Lib.hid ((hb2.block _ (lt_of_heap HQ1.out)).trans HQ1.out); obtain ⟨rr, hrr, horr, hc0⟩ := (HPA.out.later hb2).2.1.cell 0 (by simp); obtain ⟨rr2, hrr2, _, hc1⟩ := (HPA.out.later hb2).2.1.cell 1 (by simp); rw [hrr] at hrr2; cases hrr2; have HRR := Lib.hid (HPA.out.2.2 rr hrr); subst horr; clear hrr; clear c0 c1 c2 c3 c4 c5 c6 c7 c8 f0 f1 f2 f3 f4 f5 f6 f7 f8; obtain ⟨⟨c0, c1, c2, c3, c4, c5, c6, c7, c8⟩, f0, f1, f2, f3, f4, f5, f6, f7, f8⟩ := nine HN2.out; clear hb2)))
    have HN3 := Lib.hid (HN2.out.put (.int .u64 (e : Int)) (.int .u64 (v : Int)) (.int .u64 (n : Int)) (.int .u64 (x : Int)) (.string r) (.bool o) (.int .u64 (b : Int)) (.int .u64 (c : Int)) (.int .i64 t))
    have HM3 := Lib.hid (HM2.out.putted (g := w.heap.size) (by omega) (.int .u64 (e : Int)) (.int .u64 (v : Int)) (.int .u64 (n : Int)) (.int .u64 (x : Int)) (.string r) (.bool o) (.int .u64 (b : Int)) (.int .u64 (c : Int)) (.int .i64 t))
    have HO3 := Lib.hid ((put_other (w := w2) (g := w.heap.size) (q := w.heap.size + 1 + 1) (by omega) (.int .u64 (e : Int)) (.int .u64 (v : Int)) (.int .u64 (n : Int)) (.int .u64 (x : Int)) (.string r) (.bool o) (.int .u64 (b : Int)) (.int .u64 (c : Int)) (.int .i64 t)).trans HO2.out)
    have HQ3 := Lib.hid ((put_other (w := w2) (g := w.heap.size) (q := w.heap.size + 1 + 1 + 1) (by omega) (.int .u64 (e : Int)) (.int .u64 (v : Int)) (.int .u64 (n : Int)) (.int .u64 (x : Int)) (.string r) (.bool o) (.int .u64 (b : Int)) (.int .u64 (c : Int)) (.int .i64 t)).trans HQ2.out)
    have HB3 := Lib.hid (set9 (Nat.le_refl _) HB2.out (.int .u64 (e : Int)) (.int .u64 (v : Int)) (.int .u64 (n : Int)) (.int .u64 (x : Int)) (.string r) (.bool o) (.int .u64 (b : Int)) (.int .u64 (c : Int)) (.int .i64 t))
    have HNE : Hid (rr ≠ w.heap.size ∧ rr ≠ w.heap.size + 1 + 1 + 1) := Lib.hid (by have h1 := HRR.out; have h2 := lt_of_heap HQ0.out; omega)
    have r0 := (World.cell?_of_block (a := ⟨rr, 0, none⟩) (put_other (w := w2) (g := w.heap.size) (q := rr) HNE.out.1 (.int .u64 (e : Int)) (.int .u64 (v : Int)) (.int .u64 (n : Int)) (.int .u64 (x : Int)) (.string r) (.bool o) (.int .u64 (b : Int)) (.int .u64 (c : Int)) (.int .i64 t))).trans hc0
    have r1 := (World.cell?_of_block (a := ⟨rr, 1, none⟩) (put_other (w := w2) (g := w.heap.size) (q := rr) HNE.out.1 (.int .u64 (e : Int)) (.int .u64 (v : Int)) (.int .u64 (n : Int)) (.int .u64 (x : Int)) (.string r) (.bool o) (.int .u64 (b : Int)) (.int .u64 (c : Int)) (.int .i64 t))).trans hc1
    simp only [List.getElem_cons_zero, List.getElem_cons_succ] at r0 r1
    clear hc0 hc1
    generalize (((((((((w2.setCell ⟨w.heap.size, 0, none⟩ (.int .u64 (e : Int))).setCell ⟨w.heap.size, 1, none⟩ (.int .u64 (v : Int))).setCell ⟨w.heap.size, 2, none⟩ (.int .u64 (n : Int))).setCell ⟨w.heap.size, 3, none⟩ (.int .u64 (x : Int))).setCell ⟨w.heap.size, 4, none⟩ (.string r)).setCell ⟨w.heap.size, 5, none⟩ (.bool o)).setCell ⟨w.heap.size, 6, none⟩ (.int .u64 (b : Int))).setCell ⟨w.heap.size, 7, none⟩ (.int .u64 (c : Int))).setCell ⟨w.heap.size, 8, none⟩ (.int .i64 t)) = w3 at *
    clear c0 c1 c2 c3 c4 c5 c6 c7 c8 f0 f1 f2 f3 f4 f5 f6 f7 f8
    go_upto_region 8 with fail
    have HN00 := Lib.hid (show N9 w3.drew (w.heap.size) (.int .u64 (e : Int)) (.int .u64 (v : Int)) (.int .u64 (n : Int)) (.int .u64 (x : Int)) (.string r) (.bool o) (.int .u64 (b : Int)) (.int .u64 (c : Int)) (.int .i64 t) from HN3.out)
    have HM00 := Lib.hid (show N9 w3.drew (w.heap.size + 1) (.int .u64 0) (.int .u64 0) (.int .u64 0) (.int .u64 0) (.string ⟨#[]⟩) (.bool false) (.int .u64 0) (.int .u64 0) (.int .i64 0) from HM3.out)
    have HO00 := Lib.hid (show w3.drew.heap[w.heap.size + 1 + 1]? = some (.cells #[.int .u64 0, .int .u64 0, .string ⟨#[]⟩] 47 (0, 0)) from HO3.out)
    have HQ00 := Lib.hid (show w3.drew.heap[w.heap.size + 1 + 1 + 1]? = some (.cells #[.int .u64 0, .int .u64 0, .string ⟨#[]⟩] 47 (0, 0)) from HQ3.out)
    have HB00 := Lib.hid (HB3.out.drew)
    refine wp_region_held_drew (S := (fun wz => wz.cell? ⟨rr, 0, none⟩ = some (.int .u64 (ver : Int)) ∧ wz.cell? ⟨rr, 1, none⟩ = some (.int .u64 (nn : Int)))) (by kernel_rfl) ⟨r0, r1⟩ (fun hHeld => ?_)
    clear r0 r1 HN3 HM3 HO3 HQ3 HB3
    generalize w3.drew = wc0 at *
    refine wpAnyH_take (i := 0) (oi := ⟨some 29, _, _, _, _, _⟩) (v := ?_) rfl (by kernel_rfl) (by kernel_rfl) (by kernel_rfl) (fun _ _ _ h => h) (Or.inl ⟨by rfl, by (intro w hSw; (try dsimp only at hSw); go_simp; try with_reducible rfl)⟩) hHeld ?_
    try simp only [Act.put, List.setIfInBounds_toArray, List.set_cons_zero, List.set_cons_succ]
    refine wpAnyH_take (i := 1) (oi := ⟨some 30, _, _, _, _, _⟩) (v := ?_) rfl (by kernel_rfl) (by kernel_rfl) (by kernel_rfl) (fun _ _ _ h => h) (Or.inl ⟨by rfl, by (intro w hSw; (try dsimp only at hSw); go_simp; try with_reducible rfl)⟩) hHeld ?_
    try simp only [Act.put, List.setIfInBounds_toArray, List.set_cons_zero, List.set_cons_succ]
    refine wpAnyH_take (i := 2) (oi := ⟨some 31, _, _, _, _, _⟩) (v := ?_) rfl (by kernel_rfl) (by kernel_rfl) (by kernel_rfl) (fun _ _ _ h => h) (Or.inl ⟨by rfl, by (intro w hSw; (try dsimp only at hSw); go_simp; try with_reducible rfl)⟩) hHeld ?_
    try simp only [Act.put, List.setIfInBounds_toArray, List.set_cons_zero, List.set_cons_succ]
    refine wpAnyH_take (i := 3) (oi := ⟨some 32, _, _, _, _, _⟩) (v := ?_) rfl (by kernel_rfl) (by kernel_rfl) (by kernel_rfl) (fun _ _ _ h => h) (Or.inl ⟨by rfl, by (intro w hSw; (try dsimp only at hSw); go_simp; try with_reducible rfl)⟩) hHeld ?_
    try simp only [Act.put, List.setIfInBounds_toArray, List.set_cons_zero, List.set_cons_succ]
    refine wpAnyH_take (i := 4) (oi := ⟨some 33, _, _, _, _, _⟩) (v := ?_) rfl (by kernel_rfl) (by kernel_rfl) (by kernel_rfl) (fun _ _ _ h => h) (Or.inl ⟨by rfl, by (intro w hSw; (try dsimp only at hSw); go_simp; try with_reducible rfl)⟩) hHeld ?_
    try simp only [Act.put, List.setIfInBounds_toArray, List.set_cons_zero, List.set_cons_succ]
    refine wpAnyH_take (i := 5) (oi := ⟨some 34, _, _, _, _, _⟩) (v := ?_) rfl (by kernel_rfl) (by kernel_rfl) (by kernel_rfl) (fun _ _ _ h => h) (Or.inl ⟨by rfl, by (intro w hSw; (try dsimp only at hSw); go_simp; try with_reducible rfl)⟩) hHeld ?_
    try simp only [Act.put, List.setIfInBounds_toArray, List.set_cons_zero, List.set_cons_succ]
    refine wpAnyH_take (i := 6) (oi := ⟨some 35, _, _, _, _, _⟩) (v := ?_) rfl (by kernel_rfl) (by kernel_rfl) (by kernel_rfl) (fun _ _ _ h => h) (Or.inl ⟨by rfl, by (intro w hSw; (try dsimp only at hSw); go_simp; try with_reducible rfl)⟩) hHeld ?_
    try simp only [Act.put, List.setIfInBounds_toArray, List.set_cons_zero, List.set_cons_succ]
    refine wpAnyH_take (i := 7) (oi := ⟨some 36, _, _, _, _, _⟩) (v := ?_) rfl (by kernel_rfl) (by kernel_rfl) (by kernel_rfl) (fun _ _ _ h => h) (Or.inl ⟨by rfl, by (intro w hSw; (try dsimp only at hSw); go_simp; try with_reducible rfl)⟩) hHeld ?_
    try simp only [Act.put, List.setIfInBounds_toArray, List.set_cons_zero, List.set_cons_succ]
    refine wpAnyH_ready (rs := [8]) (by kernel_rfl) (by simp) ?_
    refine AllReadyH.cons (o := ⟨none, _, _, _, _, _⟩) rfl (fun K hK => ?_) ?_
    · obtain ⟨⟨m0, m1, m2⟩, l0, l1, l2⟩ := three HQ00.out
      go_simp
      have HN01 := Lib.hid ((put3_other (w := wc0) (g := w.heap.size + 1 + 1 + 1) (q := w.heap.size) (by omega) (.int .u64 (ver : Int)) (.int .u64 (nn : Int)) (.string mb)).trans HN00.out)
      have HM01 := Lib.hid ((put3_other (w := wc0) (g := w.heap.size + 1 + 1 + 1) (q := w.heap.size + 1) (by omega) (.int .u64 (ver : Int)) (.int .u64 (nn : Int)) (.string mb)).trans HM00.out)
      have HO01 := Lib.hid ((put3_other (w := wc0) (g := w.heap.size + 1 + 1 + 1) (q := w.heap.size + 1 + 1) (by omega) (.int .u64 (ver : Int)) (.int .u64 (nn : Int)) (.string mb)).trans HO00.out)
      have HQ01 := Lib.hid (put3 HQ00.out (.int .u64 (ver : Int)) (.int .u64 (nn : Int)) (.string mb))
      have HB01 := Lib.hid (set3 (g := w.heap.size + 1 + 1 + 1) (by omega) HB00.out (.int .u64 (ver : Int)) (.int .u64 (nn : Int)) (.string mb))
      refine hK.out _ _ ⟨(World.cell?_of_block (a := ⟨rr, 0, none⟩) (put3_other HNE.out.2 _ _ _)).trans hHeld.1, (World.cell?_of_block (a := ⟨rr, 1, none⟩) (put3_other HNE.out.2 _ _ _)).trans hHeld.2⟩ (fun hHeld2 => ?_)
      clear hK K hHeld HN00 HM00 HO00 HQ00 HB00 m0 m1 m2 l0 l1 l2
      have hHeld := hHeld2
      clear hHeld2
      try simp only [Act.put, List.setIfInBounds_toArray, List.set_cons_zero, List.set_cons_succ]
      generalize (((wc0.setCell ⟨w.heap.size + 1 + 1 + 1, 0, none⟩ (.int .u64 (ver : Int))).setCell ⟨w.heap.size + 1 + 1 + 1, 1, none⟩ (.int .u64 (nn : Int))).setCell ⟨w.heap.size + 1 + 1 + 1, 2, none⟩ (.string mb)) = wc1 at *
      refine wpAnyH_done (by kernel_rfl) ?_ _
      simp only [Exit.then]
      apply_assumption
      clear hHeld
      obtain ⟨⟨c0, c1, c2, c3, c4, c5, c6, c7, c8⟩, f0, f1, f2, f3, f4, f5, f6, f7, f8⟩ := nine HN01.out
      obtain ⟨⟨m0, m1, m2⟩, l0, l1, l2⟩ := three HQ01.out
      go_upto_region 11 with (first | (go_at_call 32; ((with_reducible refine (K32.out _).mono ?_); rintro z w5 ⟨rfl, hb5⟩; have HN05 := Lib.hid ((hb5.block _ (lt_of_heap HN01.out)).trans HN01.out); have HM05 := Lib.hid ((hb5.block _ (lt_of_heap HM01.out)).trans HM01.out); have HO05 := Lib.hid ((hb5.block _ (lt_of_heap HO01.out)).trans HO01.out); have HQ05 := Lib.hid ((hb5.block _ (lt_of_heap HQ01.out)).trans HQ01.out); have HB05 := Lib.hid (HB01.out.trans (hb5.mono HB01.out.size)); clear c0 c1 c2 c3 c4 c5 c6 c7 c8 f0 f1 f2 f3 f4 f5 f6 f7 f8; clear m0 m1 m2 l0 l1 l2; clear hb5 HN01 HM01 HO01 HQ01 HB01)))
      have HN06 : Hid (N9 w5.drew (w.heap.size) (.int .u64 (e : Int)) (.int .u64 (v : Int)) (.int .u64 (n : Int)) (.int .u64 (x : Int)) (.string r) (.bool o) (.int .u64 (b : Int)) (.int .u64 (c : Int)) (.int .i64 t)) := Lib.hid HN05.out
      have HM06 : Hid (N9 w5.drew (w.heap.size + 1) (.int .u64 0) (.int .u64 0) (.int .u64 0) (.int .u64 0) (.string ⟨#[]⟩) (.bool false) (.int .u64 0) (.int .u64 0) (.int .i64 0)) := Lib.hid HM05.out
      have HO06 : Hid (w5.drew.heap[w.heap.size + 1 + 1]? = some (.cells #[.int .u64 0, .int .u64 0, .string ⟨#[]⟩] 47 (0, 0))) := Lib.hid HO05.out
      have HQ06 : Hid (w5.drew.heap[w.heap.size + 1 + 1 + 1]? = some (.cells #[.int .u64 (ver : Int), .int .u64 (nn : Int), .string mb] 47 (0, 0))) := Lib.hid HQ05.out
      have HB06 := Lib.hid (HB05.out.drew)
      clear HN05 HM05 HO05 HQ05 HB05
      refine wp_region_held_drew (S := fun _ => True) (by kernel_rfl) trivial (fun _ => ?_)
      generalize w5.drew = wc9 at *
      refine wpAnyH_take (i := 0) (oi := ⟨some 47, _, _, _, _, _⟩) (v := ?_) rfl (by kernel_rfl) (by kernel_rfl) (by kernel_rfl) (fun _ _ _ h => h) (Or.inl ⟨by rfl, by (intro w hSw; (try dsimp only at hSw); go_simp; try with_reducible rfl)⟩) trivial ?_
      try simp only [Act.put, List.setIfInBounds_toArray, List.set_cons_zero, List.set_cons_succ]
      refine wpAnyH_take (i := 2) (oi := ⟨some 49, _, _, _, _, _⟩) (v := ?_) rfl (by kernel_rfl) (by kernel_rfl) (by kernel_rfl) (fun _ _ _ h => h) (Or.inl ⟨by rfl, by (intro w hSw; (try dsimp only at hSw); go_simp; try with_reducible rfl)⟩) trivial ?_
      try simp only [Act.put, List.setIfInBounds_toArray, List.set_cons_zero, List.set_cons_succ]
      refine wpAnyH_ready (rs := [1, 3]) (by kernel_rfl) (by simp) ?_
      refine AllReadyH.cons (o := ⟨some 48, _, _, _, _, _⟩) rfl (fun K hK => ?_) ?_
      · obtain ⟨⟨m0, m1, m2⟩, l0, l1, l2⟩ := three HQ06.out
        go_simp
        refine hK.out _ _ trivial (fun _ => ?_)
        clear hK K
        clear m0 m1 m2 l0 l1 l2
        try simp only [Act.put, List.setIfInBounds_toArray, List.set_cons_zero, List.set_cons_succ]
        refine wpAnyH_ready (rs := [3]) (by kernel_rfl) (by simp) ?_
        refine AllReadyH.cons (o := ⟨some 50, _, _, _, _, _⟩) rfl (fun K hK => ?_) ?_
        · obtain ⟨⟨c0, c1, c2, c3, c4, c5, c6, c7, c8⟩, f0, f1, f2, f3, f4, f5, f6, f7, f8⟩ := nine HN06.out
          go_simp
          refine hK.out _ _ trivial (fun _ => ?_)
          clear hK K
          clear c0 c1 c2 c3 c4 c5 c6 c7 c8 f0 f1 f2 f3 f4 f5 f6 f7 f8
          try simp only [Act.put, List.setIfInBounds_toArray, List.set_cons_zero, List.set_cons_succ]
          refine wpAnyH_take (i := 5) (oi := ⟨some 52, _, _, _, _, _⟩) (v := ?_) rfl (by kernel_rfl) (by kernel_rfl) (by kernel_rfl) (fun _ _ _ h => h) (Or.inl ⟨by rfl, by (intro w hSw; (try dsimp only at hSw); go_simp; try with_reducible rfl)⟩) trivial ?_
          try simp only [Act.put, List.setIfInBounds_toArray, List.set_cons_zero, List.set_cons_succ]
          refine wpAnyH_ready (rs := [4]) (by kernel_rfl) (by simp) ?_
          refine AllReadyH.cons (o := ⟨some 51, _, _, _, _, _⟩) rfl (fun K hK => ?_) ?_
          · go_simp
            refine (K33.out _).mono ?_
            rintro ze wc11 ⟨rfl, hbn⟩
            try go_simp
            have HNc11 := Lib.hid ((hbn.block _ (lt_of_heap HN06.out)).trans HN06.out)
            have HMc11 := Lib.hid ((hbn.block _ (lt_of_heap HM06.out)).trans HM06.out)
            have HOc11 := Lib.hid ((hbn.block _ (lt_of_heap HO06.out)).trans HO06.out)
            have HQc11 := Lib.hid ((hbn.block _ (lt_of_heap HQ06.out)).trans HQ06.out)
            have HBc11 := Lib.hid (HB06.out.trans (hbn.mono HB06.out.size))
            refine hK.out _ _ trivial (fun _ => ?_)
            clear hK K hbn HN06 HM06 HO06 HQ06 HB06
            try simp only [Act.put, List.setIfInBounds_toArray, List.set_cons_zero, List.set_cons_succ]
            refine wpAnyH_ready (rs := [6]) (by kernel_rfl) (by simp) ?_
            refine AllReadyH.cons (o := ⟨none, _, _, _, _, _⟩) rfl (fun K hK => ?_) ?_
            · obtain ⟨⟨c0, c1, c2, c3, c4, c5, c6, c7, c8⟩, f0, f1, f2, f3, f4, f5, f6, f7, f8⟩ := nine HNc11.out
              go_simp
              have HNc12 := Lib.hid (N9.set2 (HNc11.out) (.int .u64 (nn : Int)))
              have HMc12 : Hid (N9 (wc11.setCell ⟨w.heap.size, 2, none⟩ (.int .u64 (nn : Int))) (w.heap.size + 1) (.int .u64 0) (.int .u64 0) (.int .u64 0) (.int .u64 0) (.string ⟨#[]⟩) (.bool false) (.int .u64 0) (.int .u64 0) (.int .i64 0)) := Lib.hid (((heap_setCell_other _ ⟨w.heap.size, 2, none⟩ (w.heap.size + 1) (.int .u64 (nn : Int)) (by show w.heap.size + 1 ≠ w.heap.size; omega)).trans (HMc11.out)))
              have HOc12 : Hid ((wc11.setCell ⟨w.heap.size, 2, none⟩ (.int .u64 (nn : Int))).heap[w.heap.size + 1 + 1]? = some (.cells #[.int .u64 0, .int .u64 0, .string ⟨#[]⟩] 47 (0, 0))) := Lib.hid (((heap_setCell_other _ ⟨w.heap.size, 2, none⟩ (w.heap.size + 1 + 1) (.int .u64 (nn : Int)) (by show w.heap.size + 1 + 1 ≠ w.heap.size; omega)).trans (HOc11.out)))
              have HQc12 : Hid ((wc11.setCell ⟨w.heap.size, 2, none⟩ (.int .u64 (nn : Int))).heap[w.heap.size + 1 + 1 + 1]? = some (.cells #[.int .u64 (ver : Int), .int .u64 (nn : Int), .string mb] 47 (0, 0))) := Lib.hid (((heap_setCell_other _ ⟨w.heap.size, 2, none⟩ (w.heap.size + 1 + 1 + 1) (.int .u64 (nn : Int)) (by show w.heap.size + 1 + 1 + 1 ≠ w.heap.size; omega)).trans (HQc11.out)))
              have HBc12 := Lib.hid ((HBc11.out).setCell (p := ⟨w.heap.size, 2, none⟩) (Nat.le_refl _) (.int .u64 (nn : Int)))
              refine hK.out _ _ trivial (fun _ => ?_)
              clear hK K HNc11 HMc11 HOc11 HQc11 HBc11
              clear c0 c1 c2 c3 c4 c5 c6 c7 c8 f0 f1 f2 f3 f4 f5 f6 f7 f8
              try simp only [Act.put, List.setIfInBounds_toArray, List.set_cons_zero, List.set_cons_succ]
              generalize (wc11.setCell ⟨w.heap.size, 2, none⟩ (.int .u64 (nn : Int))) = wc12 at *
              refine wpAnyH_take (i := 7) (oi := ⟨some 53, _, _, _, _, _⟩) (v := ?_) rfl (by kernel_rfl) (by kernel_rfl) (by kernel_rfl) (fun _ _ _ h => h) (Or.inl ⟨by rfl, by (intro w hSw; (try dsimp only at hSw); go_simp; try with_reducible rfl)⟩) trivial ?_
              try simp only [Act.put, List.setIfInBounds_toArray, List.set_cons_zero, List.set_cons_succ]
              refine wpAnyH_ready (rs := [8]) (by kernel_rfl) (by simp) ?_
              refine AllReadyH.cons (o := ⟨none, _, _, _, _, _⟩) rfl (fun K hK => ?_) ?_
              · obtain ⟨⟨c0, c1, c2, c3, c4, c5, c6, c7, c8⟩, f0, f1, f2, f3, f4, f5, f6, f7, f8⟩ := nine HNc12.out
                go_simp
                have HNc13 := Lib.hid (N9.set4 (HNc12.out) (.string ⟨#[]⟩))
                have HMc13 : Hid (N9 (wc12.setCell ⟨w.heap.size, 4, none⟩ (.string ⟨#[]⟩)) (w.heap.size + 1) (.int .u64 0) (.int .u64 0) (.int .u64 0) (.int .u64 0) (.string ⟨#[]⟩) (.bool false) (.int .u64 0) (.int .u64 0) (.int .i64 0)) := Lib.hid (((heap_setCell_other _ ⟨w.heap.size, 4, none⟩ (w.heap.size + 1) (.string ⟨#[]⟩) (by show w.heap.size + 1 ≠ w.heap.size; omega)).trans (HMc12.out)))
                have HOc13 : Hid ((wc12.setCell ⟨w.heap.size, 4, none⟩ (.string ⟨#[]⟩)).heap[w.heap.size + 1 + 1]? = some (.cells #[.int .u64 0, .int .u64 0, .string ⟨#[]⟩] 47 (0, 0))) := Lib.hid (((heap_setCell_other _ ⟨w.heap.size, 4, none⟩ (w.heap.size + 1 + 1) (.string ⟨#[]⟩) (by show w.heap.size + 1 + 1 ≠ w.heap.size; omega)).trans (HOc12.out)))
                have HQc13 : Hid ((wc12.setCell ⟨w.heap.size, 4, none⟩ (.string ⟨#[]⟩)).heap[w.heap.size + 1 + 1 + 1]? = some (.cells #[.int .u64 (ver : Int), .int .u64 (nn : Int), .string mb] 47 (0, 0))) := Lib.hid (((heap_setCell_other _ ⟨w.heap.size, 4, none⟩ (w.heap.size + 1 + 1 + 1) (.string ⟨#[]⟩) (by show w.heap.size + 1 + 1 + 1 ≠ w.heap.size; omega)).trans (HQc12.out)))
                have HBc13 := Lib.hid ((HBc12.out).setCell (p := ⟨w.heap.size, 4, none⟩) (Nat.le_refl _) (.string ⟨#[]⟩))
                refine hK.out _ _ trivial (fun _ => ?_)
                clear hK K HNc12 HMc12 HOc12 HQc12 HBc12
                clear c0 c1 c2 c3 c4 c5 c6 c7 c8 f0 f1 f2 f3 f4 f5 f6 f7 f8
                try simp only [Act.put, List.setIfInBounds_toArray, List.set_cons_zero, List.set_cons_succ]
                generalize (wc12.setCell ⟨w.heap.size, 4, none⟩ (.string ⟨#[]⟩)) = wc13 at *
                refine wpAnyH_take (i := 9) (oi := ⟨some 54, _, _, _, _, _⟩) (v := ?_) rfl (by kernel_rfl) (by kernel_rfl) (by kernel_rfl) (fun _ _ _ h => h) (Or.inl ⟨by rfl, by (intro w hSw; (try dsimp only at hSw); go_simp; try with_reducible rfl)⟩) trivial ?_
                try simp only [Act.put, List.setIfInBounds_toArray, List.set_cons_zero, List.set_cons_succ]
                refine wpAnyH_ready (rs := [10]) (by kernel_rfl) (by simp) ?_
                refine AllReadyH.cons (o := ⟨none, _, _, _, _, _⟩) rfl (fun K hK => ?_) ?_
                · obtain ⟨⟨c0, c1, c2, c3, c4, c5, c6, c7, c8⟩, f0, f1, f2, f3, f4, f5, f6, f7, f8⟩ := nine HNc13.out
                  go_simp
                  have HNc14 := Lib.hid (N9.set8 (N9.set7 (N9.set6 (HNc13.out) (.int .u64 (b : Int))) (.int .u64 (c : Int))) (.int .i64 0))
                  have HMc14 : Hid (N9 (((wc13.setCell ⟨w.heap.size, 6, none⟩ (.int .u64 (b : Int))).setCell ⟨w.heap.size, 7, none⟩ (.int .u64 (c : Int))).setCell ⟨w.heap.size, 8, none⟩ (.int .i64 0)) (w.heap.size + 1) (.int .u64 0) (.int .u64 0) (.int .u64 0) (.int .u64 0) (.string ⟨#[]⟩) (.bool false) (.int .u64 0) (.int .u64 0) (.int .i64 0)) := Lib.hid (((heap_setCell_other _ ⟨w.heap.size, 8, none⟩ (w.heap.size + 1) (.int .i64 0) (by show w.heap.size + 1 ≠ w.heap.size; omega)).trans (((heap_setCell_other _ ⟨w.heap.size, 7, none⟩ (w.heap.size + 1) (.int .u64 (c : Int)) (by show w.heap.size + 1 ≠ w.heap.size; omega)).trans (((heap_setCell_other _ ⟨w.heap.size, 6, none⟩ (w.heap.size + 1) (.int .u64 (b : Int)) (by show w.heap.size + 1 ≠ w.heap.size; omega)).trans (HMc13.out)))))))
                  have HOc14 : Hid ((((wc13.setCell ⟨w.heap.size, 6, none⟩ (.int .u64 (b : Int))).setCell ⟨w.heap.size, 7, none⟩ (.int .u64 (c : Int))).setCell ⟨w.heap.size, 8, none⟩ (.int .i64 0)).heap[w.heap.size + 1 + 1]? = some (.cells #[.int .u64 0, .int .u64 0, .string ⟨#[]⟩] 47 (0, 0))) := Lib.hid (((heap_setCell_other _ ⟨w.heap.size, 8, none⟩ (w.heap.size + 1 + 1) (.int .i64 0) (by show w.heap.size + 1 + 1 ≠ w.heap.size; omega)).trans (((heap_setCell_other _ ⟨w.heap.size, 7, none⟩ (w.heap.size + 1 + 1) (.int .u64 (c : Int)) (by show w.heap.size + 1 + 1 ≠ w.heap.size; omega)).trans (((heap_setCell_other _ ⟨w.heap.size, 6, none⟩ (w.heap.size + 1 + 1) (.int .u64 (b : Int)) (by show w.heap.size + 1 + 1 ≠ w.heap.size; omega)).trans (HOc13.out)))))))
                  have HQc14 : Hid ((((wc13.setCell ⟨w.heap.size, 6, none⟩ (.int .u64 (b : Int))).setCell ⟨w.heap.size, 7, none⟩ (.int .u64 (c : Int))).setCell ⟨w.heap.size, 8, none⟩ (.int .i64 0)).heap[w.heap.size + 1 + 1 + 1]? = some (.cells #[.int .u64 (ver : Int), .int .u64 (nn : Int), .string mb] 47 (0, 0))) := Lib.hid (((heap_setCell_other _ ⟨w.heap.size, 8, none⟩ (w.heap.size + 1 + 1 + 1) (.int .i64 0) (by show w.heap.size + 1 + 1 + 1 ≠ w.heap.size; omega)).trans (((heap_setCell_other _ ⟨w.heap.size, 7, none⟩ (w.heap.size + 1 + 1 + 1) (.int .u64 (c : Int)) (by show w.heap.size + 1 + 1 + 1 ≠ w.heap.size; omega)).trans (((heap_setCell_other _ ⟨w.heap.size, 6, none⟩ (w.heap.size + 1 + 1 + 1) (.int .u64 (b : Int)) (by show w.heap.size + 1 + 1 + 1 ≠ w.heap.size; omega)).trans (HQc13.out)))))))
                  have HBc14 := Lib.hid ((((HBc13.out).setCell (p := ⟨w.heap.size, 6, none⟩) (Nat.le_refl _) (.int .u64 (b : Int))).setCell (p := ⟨w.heap.size, 7, none⟩) (Nat.le_refl _) (.int .u64 (c : Int))).setCell (p := ⟨w.heap.size, 8, none⟩) (Nat.le_refl _) (.int .i64 0))
                  refine hK.out _ _ trivial (fun _ => ?_)
                  clear hK K HNc13 HMc13 HOc13 HQc13 HBc13
                  clear c0 c1 c2 c3 c4 c5 c6 c7 c8 f0 f1 f2 f3 f4 f5 f6 f7 f8
                  try simp only [Act.put, List.setIfInBounds_toArray, List.set_cons_zero, List.set_cons_succ]
                  generalize (((wc13.setCell ⟨w.heap.size, 6, none⟩ (.int .u64 (b : Int))).setCell ⟨w.heap.size, 7, none⟩ (.int .u64 (c : Int))).setCell ⟨w.heap.size, 8, none⟩ (.int .i64 0)) = wc14 at *
                  refine wpAnyH_done (by kernel_rfl) ?_ _
                  simp only [Exit.then]
                  apply_assumption
                  obtain ⟨⟨c0, c1, c2, c3, c4, c5, c6, c7, c8⟩, f0, f1, f2, f3, f4, f5, f6, f7, f8⟩ := nine HNc14.out
                  clear c0 c1 c2 c3 c4 c5 c6 c7 c8 f0 f1 f2 f3 f4 f5 f6 f7 f8
                  go_upto_region 12 with fail
                  have HNd0 : Hid (N9 wc14.drew (w.heap.size) (.int .u64 (e : Int)) (.int .u64 (v : Int)) (.int .u64 (nn : Int)) (.int .u64 (x : Int)) (.string ⟨#[]⟩) (.bool o) (.int .u64 (b : Int)) (.int .u64 (c : Int)) (.int .i64 0)) := Lib.hid HNc14.out
                  have HMd0 : Hid (N9 wc14.drew (w.heap.size + 1) (.int .u64 0) (.int .u64 0) (.int .u64 0) (.int .u64 0) (.string ⟨#[]⟩) (.bool false) (.int .u64 0) (.int .u64 0) (.int .i64 0)) := Lib.hid HMc14.out
                  have HOd0 : Hid (wc14.drew.heap[w.heap.size + 1 + 1]? = some (.cells #[.int .u64 0, .int .u64 0, .string ⟨#[]⟩] 47 (0, 0))) := Lib.hid HOc14.out
                  have HQd0 : Hid (wc14.drew.heap[w.heap.size + 1 + 1 + 1]? = some (.cells #[.int .u64 (ver : Int), .int .u64 (nn : Int), .string mb] 47 (0, 0))) := Lib.hid HQc14.out
                  have HBd0 := Lib.hid (HBc14.out.drew)
                  clear HNc14 HMc14 HOc14 HQc14 HBc14
                  refine wp_region_held_drew (S := (fun wz => wz.rangeAt (w.heap.size) 0 [.int .u64 (e : Int), .int .u64 (v : Int), .int .u64 (nn : Int), .int .u64 (x : Int), .string ⟨#[]⟩, .bool o, .int .u64 (b : Int), .int .u64 (c : Int), .int .i64 0] ∧ wz.cell? ⟨w.heap.size + 1 + 1 + 1, 0, none⟩ = some (.int .u64 (ver : Int)) ∧ wz.cell? ⟨w.heap.size + 1 + 1 + 1, 1, none⟩ = some (.int .u64 (nn : Int)) ∧ wz.cell? ⟨w.heap.size + 1 + 1 + 1, 2, none⟩ = some (.string mb))) (by kernel_rfl) ⟨N9.range HNd0.out, (three HQd0.out).1⟩ (fun hHeld => ?_)
                  generalize wc14.drew = wd0 at *
                  refine wpAnyH_take (i := 0) (oi := ⟨some 55, _, _, _, _, _⟩) (v := .agg ([.int .u64 (e : Int), .int .u64 (v : Int), .int .u64 (nn : Int), .int .u64 (x : Int), .string ⟨#[]⟩, .bool o, .int .u64 (b : Int), .int .u64 (c : Int), .int .i64 0]).toArray) rfl (by kernel_rfl) (by kernel_rfl) (by kernel_rfl) (fun _ _ _ h => h) (yieldsIf_load_mid (by rfl) 39 (.tmp 2) rfl (w.heap.size) (0) rfl ([.int .u64 (e : Int), .int .u64 (v : Int), .int .u64 (nn : Int), .int .u64 (x : Int), .string ⟨#[]⟩, .bool o, .int .u64 (b : Int), .int .u64 (c : Int), .int .i64 0]) _ (fun w hSw => hSw.1) Try.underlying39 rfl info39) hHeld ?_
                  try simp only [Act.put, List.setIfInBounds_toArray, List.set_cons_zero, List.set_cons_succ]
                  refine wpAnyH_take (i := 1) (oi := ⟨some 56, _, _, _, _, _⟩) (v := ?_) rfl (by kernel_rfl) (by kernel_rfl) (by kernel_rfl) (fun _ _ _ h => h) (Or.inl ⟨by rfl, by (intro w hSw; (try dsimp only at hSw); go_simp; try with_reducible rfl)⟩) hHeld ?_
                  try simp only [Act.put, List.setIfInBounds_toArray, List.set_cons_zero, List.set_cons_succ]
                  refine wpAnyH_ready (rs := [2]) (by kernel_rfl) (by simp) ?_
                  refine AllReadyH.cons (o := ⟨none, _, _, _, _, _⟩) rfl (fun K hK => ?_) ?_
                  · obtain ⟨⟨d0, d1, d2, d3, d4, d5, d6, d7, d8⟩, g0, g1, g2, g3, g4, g5, g6, g7, g8⟩ := nine HMd0.out
                    go_simp
                    have HMc35 := Lib.hid (N9.put (HMd0.out) (.int .u64 (e : Int)) (.int .u64 (v : Int)) (.int .u64 (nn : Int)) (.int .u64 (x : Int)) (.string ⟨#[]⟩) (.bool o) (.int .u64 (b : Int)) (.int .u64 (c : Int)) (.int .i64 0))
                    have HNc35 := Lib.hid (N9.putted (HNd0.out) (g := w.heap.size + 1) (by omega) (.int .u64 (e : Int)) (.int .u64 (v : Int)) (.int .u64 (nn : Int)) (.int .u64 (x : Int)) (.string ⟨#[]⟩) (.bool o) (.int .u64 (b : Int)) (.int .u64 (c : Int)) (.int .i64 0))
                    have HOc35 := Lib.hid ((put_other (w := wd0) (g := w.heap.size + 1) (q := w.heap.size + 1 + 1) (by omega) (.int .u64 (e : Int)) (.int .u64 (v : Int)) (.int .u64 (nn : Int)) (.int .u64 (x : Int)) (.string ⟨#[]⟩) (.bool o) (.int .u64 (b : Int)) (.int .u64 (c : Int)) (.int .i64 0)).trans HOd0.out)
                    have HQc35 := Lib.hid ((put_other (w := wd0) (g := w.heap.size + 1) (q := w.heap.size + 1 + 1 + 1) (by omega) (.int .u64 (e : Int)) (.int .u64 (v : Int)) (.int .u64 (nn : Int)) (.int .u64 (x : Int)) (.string ⟨#[]⟩) (.bool o) (.int .u64 (b : Int)) (.int .u64 (c : Int)) (.int .i64 0)).trans HQd0.out)
                    have HBc35 := Lib.hid (set9 (g := w.heap.size + 1) (by omega) HBd0.out (.int .u64 (e : Int)) (.int .u64 (v : Int)) (.int .u64 (nn : Int)) (.int .u64 (x : Int)) (.string ⟨#[]⟩) (.bool o) (.int .u64 (b : Int)) (.int .u64 (c : Int)) (.int .i64 0))
                    refine hK.out _ _ ⟨N9.range HNc35.out, (three HQc35.out).1⟩ (fun hHeld2 => ?_)
                    clear hHeld
                    have hHeld := hHeld2
                    clear hHeld2
                    clear hK K HNd0 HMd0 HOd0 HQd0 HBd0
                    clear d0 d1 d2 d3 d4 d5 d6 d7 d8 g0 g1 g2 g3 g4 g5 g6 g7 g8
                    try simp only [Act.put, List.setIfInBounds_toArray, List.set_cons_zero, List.set_cons_succ]
                    generalize (((((((((wd0.setCell ⟨w.heap.size + 1, 0, none⟩ (.int .u64 (e : Int))).setCell ⟨w.heap.size + 1, 1, none⟩ (.int .u64 (v : Int))).setCell ⟨w.heap.size + 1, 2, none⟩ (.int .u64 (nn : Int))).setCell ⟨w.heap.size + 1, 3, none⟩ (.int .u64 (x : Int))).setCell ⟨w.heap.size + 1, 4, none⟩ (.string ⟨#[]⟩)).setCell ⟨w.heap.size + 1, 5, none⟩ (.bool o)).setCell ⟨w.heap.size + 1, 6, none⟩ (.int .u64 (b : Int))).setCell ⟨w.heap.size + 1, 7, none⟩ (.int .u64 (c : Int))).setCell ⟨w.heap.size + 1, 8, none⟩ (.int .i64 0)) = wc35 at *
                    refine wpAnyH_ready (rs := [3]) (by kernel_rfl) (by simp) ?_
                    refine AllReadyH.cons (o := ⟨none, _, _, _, _, _⟩) rfl (fun K hK => ?_) ?_
                    · obtain ⟨⟨m0, m1, m2⟩, l0, l1, l2⟩ := three HOc35.out
                      go_simp
                      have HOc36 := Lib.hid (put3 HOc35.out (.int .u64 (ver : Int)) (.int .u64 (nn : Int)) (.string mb))
                      have HNc36 := Lib.hid ((put3_other (w := wc35) (g := w.heap.size + 1 + 1) (q := w.heap.size) (by omega) (.int .u64 (ver : Int)) (.int .u64 (nn : Int)) (.string mb)).trans HNc35.out)
                      have HMc36 := Lib.hid ((put3_other (w := wc35) (g := w.heap.size + 1 + 1) (q := w.heap.size + 1) (by omega) (.int .u64 (ver : Int)) (.int .u64 (nn : Int)) (.string mb)).trans HMc35.out)
                      have HQc36 := Lib.hid ((put3_other (w := wc35) (g := w.heap.size + 1 + 1) (q := w.heap.size + 1 + 1 + 1) (by omega) (.int .u64 (ver : Int)) (.int .u64 (nn : Int)) (.string mb)).trans HQc35.out)
                      have HBc36 := Lib.hid (set3 (g := w.heap.size + 1 + 1) (by omega) HBc35.out (.int .u64 (ver : Int)) (.int .u64 (nn : Int)) (.string mb))
                      refine hK.out _ _ ⟨N9.range HNc36.out, (three HQc36.out).1⟩ (fun hHeld2 => ?_)
                      clear hHeld
                      have hHeld := hHeld2
                      clear hHeld2
                      clear hK K HNc35 HMc35 HOc35 HQc35 HBc35
                      clear m0 m1 m2 l0 l1 l2
                      try simp only [Act.put, List.setIfInBounds_toArray, List.set_cons_zero, List.set_cons_succ]
                      generalize (((wc35.setCell ⟨w.heap.size + 1 + 1, 0, none⟩ (.int .u64 (ver : Int))).setCell ⟨w.heap.size + 1 + 1, 1, none⟩ (.int .u64 (nn : Int))).setCell ⟨w.heap.size + 1 + 1, 2, none⟩ (.string mb)) = wc36 at *
                      refine wpAnyH_take (i := 4) (oi := ⟨some 6, _, _, _, _, _⟩) (v := ?_) rfl (by kernel_rfl) (by kernel_rfl) (by kernel_rfl) (fun _ _ _ h => h) (Or.inl ⟨by rfl, by (intro w hSw; (try dsimp only at hSw); go_simp; try with_reducible rfl)⟩) hHeld ?_
                      try simp only [Act.put, List.setIfInBounds_toArray, List.set_cons_zero, List.set_cons_succ]
                      refine wpAnyH_take (i := 5) (oi := ⟨some 7, _, _, _, _, _⟩) (v := ?_) rfl (by kernel_rfl) (by kernel_rfl) (by kernel_rfl) (fun _ _ _ h => h) (Or.inl ⟨by rfl, by (intro w hSw; (try dsimp only at hSw); go_simp; try with_reducible rfl)⟩) hHeld ?_
                      try simp only [Act.put, List.setIfInBounds_toArray, List.set_cons_zero, List.set_cons_succ]
                      refine wpAnyH_done (by kernel_rfl) ?_ _
                      simp only [Exit.then]
                      apply_assumption
                      obtain ⟨⟨d0, d1, d2, d3, d4, d5, d6, d7, d8⟩, g0, g1, g2, g3, g4, g5, g6, g7, g8⟩ := nine HMc36.out
                      obtain ⟨⟨m0, m1, m2⟩, l0, l1, l2⟩ := three HOc36.out
                      go_wp2
                      simp only [Exit.jump]
                      refine bodyPost_ret (v := .tuple #[.agg #[.int .u64 (e : Int), .int .u64 (v : Int), .int .u64 (nn : Int), .int .u64 (x : Int), .string ⟨#[]⟩, .bool o, .int .u64 (b : Int), .int .u64 (c : Int), .int .i64 0], .agg #[.int .u64 (ver : Int), .int .u64 (nn : Int), .string mb], .string ⟨#[]⟩, .int .i64 0]) (by simp [results, Try.results14, go_sem, *]) rfl ⟨rfl, ?_⟩
                      exact HBc36.out
                    · exact AllReadyH.nil
                  · exact AllReadyH.nil
                · exact AllReadyH.nil
              · exact AllReadyH.nil
            · exact AllReadyH.nil
          · exact AllReadyH.nil
        · exact AllReadyH.nil
      · refine AllReadyH.cons (o := ⟨some 50, _, _, _, _, _⟩) rfl (fun K hK => ?_) ?_
        · obtain ⟨⟨c0, c1, c2, c3, c4, c5, c6, c7, c8⟩, f0, f1, f2, f3, f4, f5, f6, f7, f8⟩ := nine HN06.out
          go_simp
          refine hK.out _ _ trivial (fun _ => ?_)
          clear hK K
          clear c0 c1 c2 c3 c4 c5 c6 c7 c8 f0 f1 f2 f3 f4 f5 f6 f7 f8
          try simp only [Act.put, List.setIfInBounds_toArray, List.set_cons_zero, List.set_cons_succ]
          refine wpAnyH_ready (rs := [1, 4]) (by kernel_rfl) (by simp) ?_
          refine AllReadyH.cons (o := ⟨some 48, _, _, _, _, _⟩) rfl (fun K hK => ?_) ?_
          · obtain ⟨⟨m0, m1, m2⟩, l0, l1, l2⟩ := three HQ06.out
            go_simp
            refine hK.out _ _ trivial (fun _ => ?_)
            clear hK K
            clear m0 m1 m2 l0 l1 l2
            try simp only [Act.put, List.setIfInBounds_toArray, List.set_cons_zero, List.set_cons_succ]
            refine wpAnyH_take (i := 5) (oi := ⟨some 52, _, _, _, _, _⟩) (v := ?_) rfl (by kernel_rfl) (by kernel_rfl) (by kernel_rfl) (fun _ _ _ h => h) (Or.inl ⟨by rfl, by (intro w hSw; (try dsimp only at hSw); go_simp; try with_reducible rfl)⟩) trivial ?_
            try simp only [Act.put, List.setIfInBounds_toArray, List.set_cons_zero, List.set_cons_succ]
            refine wpAnyH_ready (rs := [4]) (by kernel_rfl) (by simp) ?_
            refine AllReadyH.cons (o := ⟨some 51, _, _, _, _, _⟩) rfl (fun K hK => ?_) ?_
            · go_simp
              refine (K33.out _).mono ?_
              rintro ze wc11 ⟨rfl, hbn⟩
              try go_simp
              have HNc11 := Lib.hid ((hbn.block _ (lt_of_heap HN06.out)).trans HN06.out)
              have HMc11 := Lib.hid ((hbn.block _ (lt_of_heap HM06.out)).trans HM06.out)
              have HOc11 := Lib.hid ((hbn.block _ (lt_of_heap HO06.out)).trans HO06.out)
              have HQc11 := Lib.hid ((hbn.block _ (lt_of_heap HQ06.out)).trans HQ06.out)
              have HBc11 := Lib.hid (HB06.out.trans (hbn.mono HB06.out.size))
              refine hK.out _ _ trivial (fun _ => ?_)
              clear hK K hbn HN06 HM06 HO06 HQ06 HB06
              try simp only [Act.put, List.setIfInBounds_toArray, List.set_cons_zero, List.set_cons_succ]
              refine wpAnyH_ready (rs := [6]) (by kernel_rfl) (by simp) ?_
              refine AllReadyH.cons (o := ⟨none, _, _, _, _, _⟩) rfl (fun K hK => ?_) ?_
              · obtain ⟨⟨c0, c1, c2, c3, c4, c5, c6, c7, c8⟩, f0, f1, f2, f3, f4, f5, f6, f7, f8⟩ := nine HNc11.out
                go_simp
                have HNc12 := Lib.hid (N9.set2 (HNc11.out) (.int .u64 (nn : Int)))
                have HMc12 : Hid (N9 (wc11.setCell ⟨w.heap.size, 2, none⟩ (.int .u64 (nn : Int))) (w.heap.size + 1) (.int .u64 0) (.int .u64 0) (.int .u64 0) (.int .u64 0) (.string ⟨#[]⟩) (.bool false) (.int .u64 0) (.int .u64 0) (.int .i64 0)) := Lib.hid (((heap_setCell_other _ ⟨w.heap.size, 2, none⟩ (w.heap.size + 1) (.int .u64 (nn : Int)) (by show w.heap.size + 1 ≠ w.heap.size; omega)).trans (HMc11.out)))
                have HOc12 : Hid ((wc11.setCell ⟨w.heap.size, 2, none⟩ (.int .u64 (nn : Int))).heap[w.heap.size + 1 + 1]? = some (.cells #[.int .u64 0, .int .u64 0, .string ⟨#[]⟩] 47 (0, 0))) := Lib.hid (((heap_setCell_other _ ⟨w.heap.size, 2, none⟩ (w.heap.size + 1 + 1) (.int .u64 (nn : Int)) (by show w.heap.size + 1 + 1 ≠ w.heap.size; omega)).trans (HOc11.out)))
                have HQc12 : Hid ((wc11.setCell ⟨w.heap.size, 2, none⟩ (.int .u64 (nn : Int))).heap[w.heap.size + 1 + 1 + 1]? = some (.cells #[.int .u64 (ver : Int), .int .u64 (nn : Int), .string mb] 47 (0, 0))) := Lib.hid (((heap_setCell_other _ ⟨w.heap.size, 2, none⟩ (w.heap.size + 1 + 1 + 1) (.int .u64 (nn : Int)) (by show w.heap.size + 1 + 1 + 1 ≠ w.heap.size; omega)).trans (HQc11.out)))
                have HBc12 := Lib.hid ((HBc11.out).setCell (p := ⟨w.heap.size, 2, none⟩) (Nat.le_refl _) (.int .u64 (nn : Int)))
                refine hK.out _ _ trivial (fun _ => ?_)
                clear hK K HNc11 HMc11 HOc11 HQc11 HBc11
                clear c0 c1 c2 c3 c4 c5 c6 c7 c8 f0 f1 f2 f3 f4 f5 f6 f7 f8
                try simp only [Act.put, List.setIfInBounds_toArray, List.set_cons_zero, List.set_cons_succ]
                generalize (wc11.setCell ⟨w.heap.size, 2, none⟩ (.int .u64 (nn : Int))) = wc12 at *
                refine wpAnyH_take (i := 7) (oi := ⟨some 53, _, _, _, _, _⟩) (v := ?_) rfl (by kernel_rfl) (by kernel_rfl) (by kernel_rfl) (fun _ _ _ h => h) (Or.inl ⟨by rfl, by (intro w hSw; (try dsimp only at hSw); go_simp; try with_reducible rfl)⟩) trivial ?_
                try simp only [Act.put, List.setIfInBounds_toArray, List.set_cons_zero, List.set_cons_succ]
                refine wpAnyH_ready (rs := [8]) (by kernel_rfl) (by simp) ?_
                refine AllReadyH.cons (o := ⟨none, _, _, _, _, _⟩) rfl (fun K hK => ?_) ?_
                · obtain ⟨⟨c0, c1, c2, c3, c4, c5, c6, c7, c8⟩, f0, f1, f2, f3, f4, f5, f6, f7, f8⟩ := nine HNc12.out
                  go_simp
                  have HNc13 := Lib.hid (N9.set4 (HNc12.out) (.string ⟨#[]⟩))
                  have HMc13 : Hid (N9 (wc12.setCell ⟨w.heap.size, 4, none⟩ (.string ⟨#[]⟩)) (w.heap.size + 1) (.int .u64 0) (.int .u64 0) (.int .u64 0) (.int .u64 0) (.string ⟨#[]⟩) (.bool false) (.int .u64 0) (.int .u64 0) (.int .i64 0)) := Lib.hid (((heap_setCell_other _ ⟨w.heap.size, 4, none⟩ (w.heap.size + 1) (.string ⟨#[]⟩) (by show w.heap.size + 1 ≠ w.heap.size; omega)).trans (HMc12.out)))
                  have HOc13 : Hid ((wc12.setCell ⟨w.heap.size, 4, none⟩ (.string ⟨#[]⟩)).heap[w.heap.size + 1 + 1]? = some (.cells #[.int .u64 0, .int .u64 0, .string ⟨#[]⟩] 47 (0, 0))) := Lib.hid (((heap_setCell_other _ ⟨w.heap.size, 4, none⟩ (w.heap.size + 1 + 1) (.string ⟨#[]⟩) (by show w.heap.size + 1 + 1 ≠ w.heap.size; omega)).trans (HOc12.out)))
                  have HQc13 : Hid ((wc12.setCell ⟨w.heap.size, 4, none⟩ (.string ⟨#[]⟩)).heap[w.heap.size + 1 + 1 + 1]? = some (.cells #[.int .u64 (ver : Int), .int .u64 (nn : Int), .string mb] 47 (0, 0))) := Lib.hid (((heap_setCell_other _ ⟨w.heap.size, 4, none⟩ (w.heap.size + 1 + 1 + 1) (.string ⟨#[]⟩) (by show w.heap.size + 1 + 1 + 1 ≠ w.heap.size; omega)).trans (HQc12.out)))
                  have HBc13 := Lib.hid ((HBc12.out).setCell (p := ⟨w.heap.size, 4, none⟩) (Nat.le_refl _) (.string ⟨#[]⟩))
                  refine hK.out _ _ trivial (fun _ => ?_)
                  clear hK K HNc12 HMc12 HOc12 HQc12 HBc12
                  clear c0 c1 c2 c3 c4 c5 c6 c7 c8 f0 f1 f2 f3 f4 f5 f6 f7 f8
                  try simp only [Act.put, List.setIfInBounds_toArray, List.set_cons_zero, List.set_cons_succ]
                  generalize (wc12.setCell ⟨w.heap.size, 4, none⟩ (.string ⟨#[]⟩)) = wc13 at *
                  refine wpAnyH_take (i := 9) (oi := ⟨some 54, _, _, _, _, _⟩) (v := ?_) rfl (by kernel_rfl) (by kernel_rfl) (by kernel_rfl) (fun _ _ _ h => h) (Or.inl ⟨by rfl, by (intro w hSw; (try dsimp only at hSw); go_simp; try with_reducible rfl)⟩) trivial ?_
                  try simp only [Act.put, List.setIfInBounds_toArray, List.set_cons_zero, List.set_cons_succ]
                  refine wpAnyH_ready (rs := [10]) (by kernel_rfl) (by simp) ?_
                  refine AllReadyH.cons (o := ⟨none, _, _, _, _, _⟩) rfl (fun K hK => ?_) ?_
                  · obtain ⟨⟨c0, c1, c2, c3, c4, c5, c6, c7, c8⟩, f0, f1, f2, f3, f4, f5, f6, f7, f8⟩ := nine HNc13.out
                    go_simp
                    have HNc14 := Lib.hid (N9.set8 (N9.set7 (N9.set6 (HNc13.out) (.int .u64 (b : Int))) (.int .u64 (c : Int))) (.int .i64 0))
                    have HMc14 : Hid (N9 (((wc13.setCell ⟨w.heap.size, 6, none⟩ (.int .u64 (b : Int))).setCell ⟨w.heap.size, 7, none⟩ (.int .u64 (c : Int))).setCell ⟨w.heap.size, 8, none⟩ (.int .i64 0)) (w.heap.size + 1) (.int .u64 0) (.int .u64 0) (.int .u64 0) (.int .u64 0) (.string ⟨#[]⟩) (.bool false) (.int .u64 0) (.int .u64 0) (.int .i64 0)) := Lib.hid (((heap_setCell_other _ ⟨w.heap.size, 8, none⟩ (w.heap.size + 1) (.int .i64 0) (by show w.heap.size + 1 ≠ w.heap.size; omega)).trans (((heap_setCell_other _ ⟨w.heap.size, 7, none⟩ (w.heap.size + 1) (.int .u64 (c : Int)) (by show w.heap.size + 1 ≠ w.heap.size; omega)).trans (((heap_setCell_other _ ⟨w.heap.size, 6, none⟩ (w.heap.size + 1) (.int .u64 (b : Int)) (by show w.heap.size + 1 ≠ w.heap.size; omega)).trans (HMc13.out)))))))
                    have HOc14 : Hid ((((wc13.setCell ⟨w.heap.size, 6, none⟩ (.int .u64 (b : Int))).setCell ⟨w.heap.size, 7, none⟩ (.int .u64 (c : Int))).setCell ⟨w.heap.size, 8, none⟩ (.int .i64 0)).heap[w.heap.size + 1 + 1]? = some (.cells #[.int .u64 0, .int .u64 0, .string ⟨#[]⟩] 47 (0, 0))) := Lib.hid (((heap_setCell_other _ ⟨w.heap.size, 8, none⟩ (w.heap.size + 1 + 1) (.int .i64 0) (by show w.heap.size + 1 + 1 ≠ w.heap.size; omega)).trans (((heap_setCell_other _ ⟨w.heap.size, 7, none⟩ (w.heap.size + 1 + 1) (.int .u64 (c : Int)) (by show w.heap.size + 1 + 1 ≠ w.heap.size; omega)).trans (((heap_setCell_other _ ⟨w.heap.size, 6, none⟩ (w.heap.size + 1 + 1) (.int .u64 (b : Int)) (by show w.heap.size + 1 + 1 ≠ w.heap.size; omega)).trans (HOc13.out)))))))
                    have HQc14 : Hid ((((wc13.setCell ⟨w.heap.size, 6, none⟩ (.int .u64 (b : Int))).setCell ⟨w.heap.size, 7, none⟩ (.int .u64 (c : Int))).setCell ⟨w.heap.size, 8, none⟩ (.int .i64 0)).heap[w.heap.size + 1 + 1 + 1]? = some (.cells #[.int .u64 (ver : Int), .int .u64 (nn : Int), .string mb] 47 (0, 0))) := Lib.hid (((heap_setCell_other _ ⟨w.heap.size, 8, none⟩ (w.heap.size + 1 + 1 + 1) (.int .i64 0) (by show w.heap.size + 1 + 1 + 1 ≠ w.heap.size; omega)).trans (((heap_setCell_other _ ⟨w.heap.size, 7, none⟩ (w.heap.size + 1 + 1 + 1) (.int .u64 (c : Int)) (by show w.heap.size + 1 + 1 + 1 ≠ w.heap.size; omega)).trans (((heap_setCell_other _ ⟨w.heap.size, 6, none⟩ (w.heap.size + 1 + 1 + 1) (.int .u64 (b : Int)) (by show w.heap.size + 1 + 1 + 1 ≠ w.heap.size; omega)).trans (HQc13.out)))))))
                    have HBc14 := Lib.hid ((((HBc13.out).setCell (p := ⟨w.heap.size, 6, none⟩) (Nat.le_refl _) (.int .u64 (b : Int))).setCell (p := ⟨w.heap.size, 7, none⟩) (Nat.le_refl _) (.int .u64 (c : Int))).setCell (p := ⟨w.heap.size, 8, none⟩) (Nat.le_refl _) (.int .i64 0))
                    refine hK.out _ _ trivial (fun _ => ?_)
                    clear hK K HNc13 HMc13 HOc13 HQc13 HBc13
                    clear c0 c1 c2 c3 c4 c5 c6 c7 c8 f0 f1 f2 f3 f4 f5 f6 f7 f8
                    try simp only [Act.put, List.setIfInBounds_toArray, List.set_cons_zero, List.set_cons_succ]
                    generalize (((wc13.setCell ⟨w.heap.size, 6, none⟩ (.int .u64 (b : Int))).setCell ⟨w.heap.size, 7, none⟩ (.int .u64 (c : Int))).setCell ⟨w.heap.size, 8, none⟩ (.int .i64 0)) = wc14 at *
                    refine wpAnyH_done (by kernel_rfl) ?_ _
                    simp only [Exit.then]
                    apply_assumption
                    obtain ⟨⟨c0, c1, c2, c3, c4, c5, c6, c7, c8⟩, f0, f1, f2, f3, f4, f5, f6, f7, f8⟩ := nine HNc14.out
                    clear c0 c1 c2 c3 c4 c5 c6 c7 c8 f0 f1 f2 f3 f4 f5 f6 f7 f8
                    go_upto_region 12 with fail
                    have HNd0 : Hid (N9 wc14.drew (w.heap.size) (.int .u64 (e : Int)) (.int .u64 (v : Int)) (.int .u64 (nn : Int)) (.int .u64 (x : Int)) (.string ⟨#[]⟩) (.bool o) (.int .u64 (b : Int)) (.int .u64 (c : Int)) (.int .i64 0)) := Lib.hid HNc14.out
                    have HMd0 : Hid (N9 wc14.drew (w.heap.size + 1) (.int .u64 0) (.int .u64 0) (.int .u64 0) (.int .u64 0) (.string ⟨#[]⟩) (.bool false) (.int .u64 0) (.int .u64 0) (.int .i64 0)) := Lib.hid HMc14.out
                    have HOd0 : Hid (wc14.drew.heap[w.heap.size + 1 + 1]? = some (.cells #[.int .u64 0, .int .u64 0, .string ⟨#[]⟩] 47 (0, 0))) := Lib.hid HOc14.out
                    have HQd0 : Hid (wc14.drew.heap[w.heap.size + 1 + 1 + 1]? = some (.cells #[.int .u64 (ver : Int), .int .u64 (nn : Int), .string mb] 47 (0, 0))) := Lib.hid HQc14.out
                    have HBd0 := Lib.hid (HBc14.out.drew)
                    clear HNc14 HMc14 HOc14 HQc14 HBc14
                    refine wp_region_held_drew (S := (fun wz => wz.rangeAt (w.heap.size) 0 [.int .u64 (e : Int), .int .u64 (v : Int), .int .u64 (nn : Int), .int .u64 (x : Int), .string ⟨#[]⟩, .bool o, .int .u64 (b : Int), .int .u64 (c : Int), .int .i64 0] ∧ wz.cell? ⟨w.heap.size + 1 + 1 + 1, 0, none⟩ = some (.int .u64 (ver : Int)) ∧ wz.cell? ⟨w.heap.size + 1 + 1 + 1, 1, none⟩ = some (.int .u64 (nn : Int)) ∧ wz.cell? ⟨w.heap.size + 1 + 1 + 1, 2, none⟩ = some (.string mb))) (by kernel_rfl) ⟨N9.range HNd0.out, (three HQd0.out).1⟩ (fun hHeld => ?_)
                    generalize wc14.drew = wd0 at *
                    refine wpAnyH_take (i := 0) (oi := ⟨some 55, _, _, _, _, _⟩) (v := .agg ([.int .u64 (e : Int), .int .u64 (v : Int), .int .u64 (nn : Int), .int .u64 (x : Int), .string ⟨#[]⟩, .bool o, .int .u64 (b : Int), .int .u64 (c : Int), .int .i64 0]).toArray) rfl (by kernel_rfl) (by kernel_rfl) (by kernel_rfl) (fun _ _ _ h => h) (yieldsIf_load_mid (by rfl) 39 (.tmp 2) rfl (w.heap.size) (0) rfl ([.int .u64 (e : Int), .int .u64 (v : Int), .int .u64 (nn : Int), .int .u64 (x : Int), .string ⟨#[]⟩, .bool o, .int .u64 (b : Int), .int .u64 (c : Int), .int .i64 0]) _ (fun w hSw => hSw.1) Try.underlying39 rfl info39) hHeld ?_
                    try simp only [Act.put, List.setIfInBounds_toArray, List.set_cons_zero, List.set_cons_succ]
                    refine wpAnyH_take (i := 1) (oi := ⟨some 56, _, _, _, _, _⟩) (v := ?_) rfl (by kernel_rfl) (by kernel_rfl) (by kernel_rfl) (fun _ _ _ h => h) (Or.inl ⟨by rfl, by (intro w hSw; (try dsimp only at hSw); go_simp; try with_reducible rfl)⟩) hHeld ?_
                    try simp only [Act.put, List.setIfInBounds_toArray, List.set_cons_zero, List.set_cons_succ]
                    refine wpAnyH_ready (rs := [2]) (by kernel_rfl) (by simp) ?_
                    refine AllReadyH.cons (o := ⟨none, _, _, _, _, _⟩) rfl (fun K hK => ?_) ?_
                    · obtain ⟨⟨d0, d1, d2, d3, d4, d5, d6, d7, d8⟩, g0, g1, g2, g3, g4, g5, g6, g7, g8⟩ := nine HMd0.out
                      go_simp
                      have HMc35 := Lib.hid (N9.put (HMd0.out) (.int .u64 (e : Int)) (.int .u64 (v : Int)) (.int .u64 (nn : Int)) (.int .u64 (x : Int)) (.string ⟨#[]⟩) (.bool o) (.int .u64 (b : Int)) (.int .u64 (c : Int)) (.int .i64 0))
                      have HNc35 := Lib.hid (N9.putted (HNd0.out) (g := w.heap.size + 1) (by omega) (.int .u64 (e : Int)) (.int .u64 (v : Int)) (.int .u64 (nn : Int)) (.int .u64 (x : Int)) (.string ⟨#[]⟩) (.bool o) (.int .u64 (b : Int)) (.int .u64 (c : Int)) (.int .i64 0))
                      have HOc35 := Lib.hid ((put_other (w := wd0) (g := w.heap.size + 1) (q := w.heap.size + 1 + 1) (by omega) (.int .u64 (e : Int)) (.int .u64 (v : Int)) (.int .u64 (nn : Int)) (.int .u64 (x : Int)) (.string ⟨#[]⟩) (.bool o) (.int .u64 (b : Int)) (.int .u64 (c : Int)) (.int .i64 0)).trans HOd0.out)
                      have HQc35 := Lib.hid ((put_other (w := wd0) (g := w.heap.size + 1) (q := w.heap.size + 1 + 1 + 1) (by omega) (.int .u64 (e : Int)) (.int .u64 (v : Int)) (.int .u64 (nn : Int)) (.int .u64 (x : Int)) (.string ⟨#[]⟩) (.bool o) (.int .u64 (b : Int)) (.int .u64 (c : Int)) (.int .i64 0)).trans HQd0.out)
                      have HBc35 := Lib.hid (set9 (g := w.heap.size + 1) (by omega) HBd0.out (.int .u64 (e : Int)) (.int .u64 (v : Int)) (.int .u64 (nn : Int)) (.int .u64 (x : Int)) (.string ⟨#[]⟩) (.bool o) (.int .u64 (b : Int)) (.int .u64 (c : Int)) (.int .i64 0))
                      refine hK.out _ _ ⟨N9.range HNc35.out, (three HQc35.out).1⟩ (fun hHeld2 => ?_)
                      clear hHeld
                      have hHeld := hHeld2
                      clear hHeld2
                      clear hK K HNd0 HMd0 HOd0 HQd0 HBd0
                      clear d0 d1 d2 d3 d4 d5 d6 d7 d8 g0 g1 g2 g3 g4 g5 g6 g7 g8
                      try simp only [Act.put, List.setIfInBounds_toArray, List.set_cons_zero, List.set_cons_succ]
                      generalize (((((((((wd0.setCell ⟨w.heap.size + 1, 0, none⟩ (.int .u64 (e : Int))).setCell ⟨w.heap.size + 1, 1, none⟩ (.int .u64 (v : Int))).setCell ⟨w.heap.size + 1, 2, none⟩ (.int .u64 (nn : Int))).setCell ⟨w.heap.size + 1, 3, none⟩ (.int .u64 (x : Int))).setCell ⟨w.heap.size + 1, 4, none⟩ (.string ⟨#[]⟩)).setCell ⟨w.heap.size + 1, 5, none⟩ (.bool o)).setCell ⟨w.heap.size + 1, 6, none⟩ (.int .u64 (b : Int))).setCell ⟨w.heap.size + 1, 7, none⟩ (.int .u64 (c : Int))).setCell ⟨w.heap.size + 1, 8, none⟩ (.int .i64 0)) = wc35 at *
                      refine wpAnyH_ready (rs := [3]) (by kernel_rfl) (by simp) ?_
                      refine AllReadyH.cons (o := ⟨none, _, _, _, _, _⟩) rfl (fun K hK => ?_) ?_
                      · obtain ⟨⟨m0, m1, m2⟩, l0, l1, l2⟩ := three HOc35.out
                        go_simp
                        have HOc36 := Lib.hid (put3 HOc35.out (.int .u64 (ver : Int)) (.int .u64 (nn : Int)) (.string mb))
                        have HNc36 := Lib.hid ((put3_other (w := wc35) (g := w.heap.size + 1 + 1) (q := w.heap.size) (by omega) (.int .u64 (ver : Int)) (.int .u64 (nn : Int)) (.string mb)).trans HNc35.out)
                        have HMc36 := Lib.hid ((put3_other (w := wc35) (g := w.heap.size + 1 + 1) (q := w.heap.size + 1) (by omega) (.int .u64 (ver : Int)) (.int .u64 (nn : Int)) (.string mb)).trans HMc35.out)
                        have HQc36 := Lib.hid ((put3_other (w := wc35) (g := w.heap.size + 1 + 1) (q := w.heap.size + 1 + 1 + 1) (by omega) (.int .u64 (ver : Int)) (.int .u64 (nn : Int)) (.string mb)).trans HQc35.out)
                        have HBc36 := Lib.hid (set3 (g := w.heap.size + 1 + 1) (by omega) HBc35.out (.int .u64 (ver : Int)) (.int .u64 (nn : Int)) (.string mb))
                        refine hK.out _ _ ⟨N9.range HNc36.out, (three HQc36.out).1⟩ (fun hHeld2 => ?_)
                        clear hHeld
                        have hHeld := hHeld2
                        clear hHeld2
                        clear hK K HNc35 HMc35 HOc35 HQc35 HBc35
                        clear m0 m1 m2 l0 l1 l2
                        try simp only [Act.put, List.setIfInBounds_toArray, List.set_cons_zero, List.set_cons_succ]
                        generalize (((wc35.setCell ⟨w.heap.size + 1 + 1, 0, none⟩ (.int .u64 (ver : Int))).setCell ⟨w.heap.size + 1 + 1, 1, none⟩ (.int .u64 (nn : Int))).setCell ⟨w.heap.size + 1 + 1, 2, none⟩ (.string mb)) = wc36 at *
                        refine wpAnyH_take (i := 4) (oi := ⟨some 6, _, _, _, _, _⟩) (v := ?_) rfl (by kernel_rfl) (by kernel_rfl) (by kernel_rfl) (fun _ _ _ h => h) (Or.inl ⟨by rfl, by (intro w hSw; (try dsimp only at hSw); go_simp; try with_reducible rfl)⟩) hHeld ?_
                        try simp only [Act.put, List.setIfInBounds_toArray, List.set_cons_zero, List.set_cons_succ]
                        refine wpAnyH_take (i := 5) (oi := ⟨some 7, _, _, _, _, _⟩) (v := ?_) rfl (by kernel_rfl) (by kernel_rfl) (by kernel_rfl) (fun _ _ _ h => h) (Or.inl ⟨by rfl, by (intro w hSw; (try dsimp only at hSw); go_simp; try with_reducible rfl)⟩) hHeld ?_
                        try simp only [Act.put, List.setIfInBounds_toArray, List.set_cons_zero, List.set_cons_succ]
                        refine wpAnyH_done (by kernel_rfl) ?_ _
                        simp only [Exit.then]
                        apply_assumption
                        obtain ⟨⟨d0, d1, d2, d3, d4, d5, d6, d7, d8⟩, g0, g1, g2, g3, g4, g5, g6, g7, g8⟩ := nine HMc36.out
                        obtain ⟨⟨m0, m1, m2⟩, l0, l1, l2⟩ := three HOc36.out
                        go_wp2
                        simp only [Exit.jump]
                        refine bodyPost_ret (v := .tuple #[.agg #[.int .u64 (e : Int), .int .u64 (v : Int), .int .u64 (nn : Int), .int .u64 (x : Int), .string ⟨#[]⟩, .bool o, .int .u64 (b : Int), .int .u64 (c : Int), .int .i64 0], .agg #[.int .u64 (ver : Int), .int .u64 (nn : Int), .string mb], .string ⟨#[]⟩, .int .i64 0]) (by simp [results, Try.results14, go_sem, *]) rfl ⟨rfl, ?_⟩
                        exact HBc36.out
                      · exact AllReadyH.nil
                    · exact AllReadyH.nil
                  · exact AllReadyH.nil
                · exact AllReadyH.nil
              · exact AllReadyH.nil
            · exact AllReadyH.nil
          · refine AllReadyH.cons (o := ⟨some 51, _, _, _, _, _⟩) rfl (fun K hK => ?_) ?_
            · go_simp
              refine (K33.out _).mono ?_
              rintro ze wc11 ⟨rfl, hbn⟩
              try go_simp
              have HNc11 := Lib.hid ((hbn.block _ (lt_of_heap HN06.out)).trans HN06.out)
              have HMc11 := Lib.hid ((hbn.block _ (lt_of_heap HM06.out)).trans HM06.out)
              have HOc11 := Lib.hid ((hbn.block _ (lt_of_heap HO06.out)).trans HO06.out)
              have HQc11 := Lib.hid ((hbn.block _ (lt_of_heap HQ06.out)).trans HQ06.out)
              have HBc11 := Lib.hid (HB06.out.trans (hbn.mono HB06.out.size))
              refine hK.out _ _ trivial (fun _ => ?_)
              clear hK K hbn HN06 HM06 HO06 HQ06 HB06
              try simp only [Act.put, List.setIfInBounds_toArray, List.set_cons_zero, List.set_cons_succ]
              refine wpAnyH_ready (rs := [1]) (by kernel_rfl) (by simp) ?_
              refine AllReadyH.cons (o := ⟨some 48, _, _, _, _, _⟩) rfl (fun K hK => ?_) ?_
              · obtain ⟨⟨m0, m1, m2⟩, l0, l1, l2⟩ := three HQc11.out
                go_simp
                refine hK.out _ _ trivial (fun _ => ?_)
                clear hK K
                clear m0 m1 m2 l0 l1 l2
                try simp only [Act.put, List.setIfInBounds_toArray, List.set_cons_zero, List.set_cons_succ]
                refine wpAnyH_take (i := 5) (oi := ⟨some 52, _, _, _, _, _⟩) (v := ?_) rfl (by kernel_rfl) (by kernel_rfl) (by kernel_rfl) (fun _ _ _ h => h) (Or.inl ⟨by rfl, by (intro w hSw; (try dsimp only at hSw); go_simp; try with_reducible rfl)⟩) trivial ?_
                try simp only [Act.put, List.setIfInBounds_toArray, List.set_cons_zero, List.set_cons_succ]
                refine wpAnyH_ready (rs := [6]) (by kernel_rfl) (by simp) ?_
                refine AllReadyH.cons (o := ⟨none, _, _, _, _, _⟩) rfl (fun K hK => ?_) ?_
                · obtain ⟨⟨c0, c1, c2, c3, c4, c5, c6, c7, c8⟩, f0, f1, f2, f3, f4, f5, f6, f7, f8⟩ := nine HNc11.out
                  go_simp
                  have HNc12 := Lib.hid (N9.set2 (HNc11.out) (.int .u64 (nn : Int)))
                  have HMc12 : Hid (N9 (wc11.setCell ⟨w.heap.size, 2, none⟩ (.int .u64 (nn : Int))) (w.heap.size + 1) (.int .u64 0) (.int .u64 0) (.int .u64 0) (.int .u64 0) (.string ⟨#[]⟩) (.bool false) (.int .u64 0) (.int .u64 0) (.int .i64 0)) := Lib.hid (((heap_setCell_other _ ⟨w.heap.size, 2, none⟩ (w.heap.size + 1) (.int .u64 (nn : Int)) (by show w.heap.size + 1 ≠ w.heap.size; omega)).trans (HMc11.out)))
                  have HOc12 : Hid ((wc11.setCell ⟨w.heap.size, 2, none⟩ (.int .u64 (nn : Int))).heap[w.heap.size + 1 + 1]? = some (.cells #[.int .u64 0, .int .u64 0, .string ⟨#[]⟩] 47 (0, 0))) := Lib.hid (((heap_setCell_other _ ⟨w.heap.size, 2, none⟩ (w.heap.size + 1 + 1) (.int .u64 (nn : Int)) (by show w.heap.size + 1 + 1 ≠ w.heap.size; omega)).trans (HOc11.out)))
                  have HQc12 : Hid ((wc11.setCell ⟨w.heap.size, 2, none⟩ (.int .u64 (nn : Int))).heap[w.heap.size + 1 + 1 + 1]? = some (.cells #[.int .u64 (ver : Int), .int .u64 (nn : Int), .string mb] 47 (0, 0))) := Lib.hid (((heap_setCell_other _ ⟨w.heap.size, 2, none⟩ (w.heap.size + 1 + 1 + 1) (.int .u64 (nn : Int)) (by show w.heap.size + 1 + 1 + 1 ≠ w.heap.size; omega)).trans (HQc11.out)))
                  have HBc12 := Lib.hid ((HBc11.out).setCell (p := ⟨w.heap.size, 2, none⟩) (Nat.le_refl _) (.int .u64 (nn : Int)))
                  refine hK.out _ _ trivial (fun _ => ?_)
                  clear hK K HNc11 HMc11 HOc11 HQc11 HBc11
                  clear c0 c1 c2 c3 c4 c5 c6 c7 c8 f0 f1 f2 f3 f4 f5 f6 f7 f8
                  try simp only [Act.put, List.setIfInBounds_toArray, List.set_cons_zero, List.set_cons_succ]
                  generalize (wc11.setCell ⟨w.heap.size, 2, none⟩ (.int .u64 (nn : Int))) = wc12 at *
                  refine wpAnyH_take (i := 7) (oi := ⟨some 53, _, _, _, _, _⟩) (v := ?_) rfl (by kernel_rfl) (by kernel_rfl) (by kernel_rfl) (fun _ _ _ h => h) (Or.inl ⟨by rfl, by (intro w hSw; (try dsimp only at hSw); go_simp; try with_reducible rfl)⟩) trivial ?_
                  try simp only [Act.put, List.setIfInBounds_toArray, List.set_cons_zero, List.set_cons_succ]
                  refine wpAnyH_ready (rs := [8]) (by kernel_rfl) (by simp) ?_
                  refine AllReadyH.cons (o := ⟨none, _, _, _, _, _⟩) rfl (fun K hK => ?_) ?_
                  · obtain ⟨⟨c0, c1, c2, c3, c4, c5, c6, c7, c8⟩, f0, f1, f2, f3, f4, f5, f6, f7, f8⟩ := nine HNc12.out
                    go_simp
                    have HNc13 := Lib.hid (N9.set4 (HNc12.out) (.string ⟨#[]⟩))
                    have HMc13 : Hid (N9 (wc12.setCell ⟨w.heap.size, 4, none⟩ (.string ⟨#[]⟩)) (w.heap.size + 1) (.int .u64 0) (.int .u64 0) (.int .u64 0) (.int .u64 0) (.string ⟨#[]⟩) (.bool false) (.int .u64 0) (.int .u64 0) (.int .i64 0)) := Lib.hid (((heap_setCell_other _ ⟨w.heap.size, 4, none⟩ (w.heap.size + 1) (.string ⟨#[]⟩) (by show w.heap.size + 1 ≠ w.heap.size; omega)).trans (HMc12.out)))
                    have HOc13 : Hid ((wc12.setCell ⟨w.heap.size, 4, none⟩ (.string ⟨#[]⟩)).heap[w.heap.size + 1 + 1]? = some (.cells #[.int .u64 0, .int .u64 0, .string ⟨#[]⟩] 47 (0, 0))) := Lib.hid (((heap_setCell_other _ ⟨w.heap.size, 4, none⟩ (w.heap.size + 1 + 1) (.string ⟨#[]⟩) (by show w.heap.size + 1 + 1 ≠ w.heap.size; omega)).trans (HOc12.out)))
                    have HQc13 : Hid ((wc12.setCell ⟨w.heap.size, 4, none⟩ (.string ⟨#[]⟩)).heap[w.heap.size + 1 + 1 + 1]? = some (.cells #[.int .u64 (ver : Int), .int .u64 (nn : Int), .string mb] 47 (0, 0))) := Lib.hid (((heap_setCell_other _ ⟨w.heap.size, 4, none⟩ (w.heap.size + 1 + 1 + 1) (.string ⟨#[]⟩) (by show w.heap.size + 1 + 1 + 1 ≠ w.heap.size; omega)).trans (HQc12.out)))
                    have HBc13 := Lib.hid ((HBc12.out).setCell (p := ⟨w.heap.size, 4, none⟩) (Nat.le_refl _) (.string ⟨#[]⟩))
                    refine hK.out _ _ trivial (fun _ => ?_)
                    clear hK K HNc12 HMc12 HOc12 HQc12 HBc12
                    clear c0 c1 c2 c3 c4 c5 c6 c7 c8 f0 f1 f2 f3 f4 f5 f6 f7 f8
                    try simp only [Act.put, List.setIfInBounds_toArray, List.set_cons_zero, List.set_cons_succ]
                    generalize (wc12.setCell ⟨w.heap.size, 4, none⟩ (.string ⟨#[]⟩)) = wc13 at *
                    refine wpAnyH_take (i := 9) (oi := ⟨some 54, _, _, _, _, _⟩) (v := ?_) rfl (by kernel_rfl) (by kernel_rfl) (by kernel_rfl) (fun _ _ _ h => h) (Or.inl ⟨by rfl, by (intro w hSw; (try dsimp only at hSw); go_simp; try with_reducible rfl)⟩) trivial ?_
                    try simp only [Act.put, List.setIfInBounds_toArray, List.set_cons_zero, List.set_cons_succ]
                    refine wpAnyH_ready (rs := [10]) (by kernel_rfl) (by simp) ?_
                    refine AllReadyH.cons (o := ⟨none, _, _, _, _, _⟩) rfl (fun K hK => ?_) ?_
                    · obtain ⟨⟨c0, c1, c2, c3, c4, c5, c6, c7, c8⟩, f0, f1, f2, f3, f4, f5, f6, f7, f8⟩ := nine HNc13.out
                      go_simp
                      have HNc14 := Lib.hid (N9.set8 (N9.set7 (N9.set6 (HNc13.out) (.int .u64 (b : Int))) (.int .u64 (c : Int))) (.int .i64 0))
                      have HMc14 : Hid (N9 (((wc13.setCell ⟨w.heap.size, 6, none⟩ (.int .u64 (b : Int))).setCell ⟨w.heap.size, 7, none⟩ (.int .u64 (c : Int))).setCell ⟨w.heap.size, 8, none⟩ (.int .i64 0)) (w.heap.size + 1) (.int .u64 0) (.int .u64 0) (.int .u64 0) (.int .u64 0) (.string ⟨#[]⟩) (.bool false) (.int .u64 0) (.int .u64 0) (.int .i64 0)) := Lib.hid (((heap_setCell_other _ ⟨w.heap.size, 8, none⟩ (w.heap.size + 1) (.int .i64 0) (by show w.heap.size + 1 ≠ w.heap.size; omega)).trans (((heap_setCell_other _ ⟨w.heap.size, 7, none⟩ (w.heap.size + 1) (.int .u64 (c : Int)) (by show w.heap.size + 1 ≠ w.heap.size; omega)).trans (((heap_setCell_other _ ⟨w.heap.size, 6, none⟩ (w.heap.size + 1) (.int .u64 (b : Int)) (by show w.heap.size + 1 ≠ w.heap.size; omega)).trans (HMc13.out)))))))
                      have HOc14 : Hid ((((wc13.setCell ⟨w.heap.size, 6, none⟩ (.int .u64 (b : Int))).setCell ⟨w.heap.size, 7, none⟩ (.int .u64 (c : Int))).setCell ⟨w.heap.size, 8, none⟩ (.int .i64 0)).heap[w.heap.size + 1 + 1]? = some (.cells #[.int .u64 0, .int .u64 0, .string ⟨#[]⟩] 47 (0, 0))) := Lib.hid (((heap_setCell_other _ ⟨w.heap.size, 8, none⟩ (w.heap.size + 1 + 1) (.int .i64 0) (by show w.heap.size + 1 + 1 ≠ w.heap.size; omega)).trans (((heap_setCell_other _ ⟨w.heap.size, 7, none⟩ (w.heap.size + 1 + 1) (.int .u64 (c : Int)) (by show w.heap.size + 1 + 1 ≠ w.heap.size; omega)).trans (((heap_setCell_other _ ⟨w.heap.size, 6, none⟩ (w.heap.size + 1 + 1) (.int .u64 (b : Int)) (by show w.heap.size + 1 + 1 ≠ w.heap.size; omega)).trans (HOc13.out)))))))
                      have HQc14 : Hid ((((wc13.setCell ⟨w.heap.size, 6, none⟩ (.int .u64 (b : Int))).setCell ⟨w.heap.size, 7, none⟩ (.int .u64 (c : Int))).setCell ⟨w.heap.size, 8, none⟩ (.int .i64 0)).heap[w.heap.size + 1 + 1 + 1]? = some (.cells #[.int .u64 (ver : Int), .int .u64 (nn : Int), .string mb] 47 (0, 0))) := Lib.hid (((heap_setCell_other _ ⟨w.heap.size, 8, none⟩ (w.heap.size + 1 + 1 + 1) (.int .i64 0) (by show w.heap.size + 1 + 1 + 1 ≠ w.heap.size; omega)).trans (((heap_setCell_other _ ⟨w.heap.size, 7, none⟩ (w.heap.size + 1 + 1 + 1) (.int .u64 (c : Int)) (by show w.heap.size + 1 + 1 + 1 ≠ w.heap.size; omega)).trans (((heap_setCell_other _ ⟨w.heap.size, 6, none⟩ (w.heap.size + 1 + 1 + 1) (.int .u64 (b : Int)) (by show w.heap.size + 1 + 1 + 1 ≠ w.heap.size; omega)).trans (HQc13.out)))))))
                      have HBc14 := Lib.hid ((((HBc13.out).setCell (p := ⟨w.heap.size, 6, none⟩) (Nat.le_refl _) (.int .u64 (b : Int))).setCell (p := ⟨w.heap.size, 7, none⟩) (Nat.le_refl _) (.int .u64 (c : Int))).setCell (p := ⟨w.heap.size, 8, none⟩) (Nat.le_refl _) (.int .i64 0))
                      refine hK.out _ _ trivial (fun _ => ?_)
                      clear hK K HNc13 HMc13 HOc13 HQc13 HBc13
                      clear c0 c1 c2 c3 c4 c5 c6 c7 c8 f0 f1 f2 f3 f4 f5 f6 f7 f8
                      try simp only [Act.put, List.setIfInBounds_toArray, List.set_cons_zero, List.set_cons_succ]
                      generalize (((wc13.setCell ⟨w.heap.size, 6, none⟩ (.int .u64 (b : Int))).setCell ⟨w.heap.size, 7, none⟩ (.int .u64 (c : Int))).setCell ⟨w.heap.size, 8, none⟩ (.int .i64 0)) = wc14 at *
                      refine wpAnyH_done (by kernel_rfl) ?_ _
                      simp only [Exit.then]
                      apply_assumption
                      obtain ⟨⟨c0, c1, c2, c3, c4, c5, c6, c7, c8⟩, f0, f1, f2, f3, f4, f5, f6, f7, f8⟩ := nine HNc14.out
                      clear c0 c1 c2 c3 c4 c5 c6 c7 c8 f0 f1 f2 f3 f4 f5 f6 f7 f8
                      go_upto_region 12 with fail
                      have HNd0 : Hid (N9 wc14.drew (w.heap.size) (.int .u64 (e : Int)) (.int .u64 (v : Int)) (.int .u64 (nn : Int)) (.int .u64 (x : Int)) (.string ⟨#[]⟩) (.bool o) (.int .u64 (b : Int)) (.int .u64 (c : Int)) (.int .i64 0)) := Lib.hid HNc14.out
                      have HMd0 : Hid (N9 wc14.drew (w.heap.size + 1) (.int .u64 0) (.int .u64 0) (.int .u64 0) (.int .u64 0) (.string ⟨#[]⟩) (.bool false) (.int .u64 0) (.int .u64 0) (.int .i64 0)) := Lib.hid HMc14.out
                      have HOd0 : Hid (wc14.drew.heap[w.heap.size + 1 + 1]? = some (.cells #[.int .u64 0, .int .u64 0, .string ⟨#[]⟩] 47 (0, 0))) := Lib.hid HOc14.out
                      have HQd0 : Hid (wc14.drew.heap[w.heap.size + 1 + 1 + 1]? = some (.cells #[.int .u64 (ver : Int), .int .u64 (nn : Int), .string mb] 47 (0, 0))) := Lib.hid HQc14.out
                      have HBd0 := Lib.hid (HBc14.out.drew)
                      clear HNc14 HMc14 HOc14 HQc14 HBc14
                      refine wp_region_held_drew (S := (fun wz => wz.rangeAt (w.heap.size) 0 [.int .u64 (e : Int), .int .u64 (v : Int), .int .u64 (nn : Int), .int .u64 (x : Int), .string ⟨#[]⟩, .bool o, .int .u64 (b : Int), .int .u64 (c : Int), .int .i64 0] ∧ wz.cell? ⟨w.heap.size + 1 + 1 + 1, 0, none⟩ = some (.int .u64 (ver : Int)) ∧ wz.cell? ⟨w.heap.size + 1 + 1 + 1, 1, none⟩ = some (.int .u64 (nn : Int)) ∧ wz.cell? ⟨w.heap.size + 1 + 1 + 1, 2, none⟩ = some (.string mb))) (by kernel_rfl) ⟨N9.range HNd0.out, (three HQd0.out).1⟩ (fun hHeld => ?_)
                      generalize wc14.drew = wd0 at *
                      refine wpAnyH_take (i := 0) (oi := ⟨some 55, _, _, _, _, _⟩) (v := .agg ([.int .u64 (e : Int), .int .u64 (v : Int), .int .u64 (nn : Int), .int .u64 (x : Int), .string ⟨#[]⟩, .bool o, .int .u64 (b : Int), .int .u64 (c : Int), .int .i64 0]).toArray) rfl (by kernel_rfl) (by kernel_rfl) (by kernel_rfl) (fun _ _ _ h => h) (yieldsIf_load_mid (by rfl) 39 (.tmp 2) rfl (w.heap.size) (0) rfl ([.int .u64 (e : Int), .int .u64 (v : Int), .int .u64 (nn : Int), .int .u64 (x : Int), .string ⟨#[]⟩, .bool o, .int .u64 (b : Int), .int .u64 (c : Int), .int .i64 0]) _ (fun w hSw => hSw.1) Try.underlying39 rfl info39) hHeld ?_
                      try simp only [Act.put, List.setIfInBounds_toArray, List.set_cons_zero, List.set_cons_succ]
                      refine wpAnyH_take (i := 1) (oi := ⟨some 56, _, _, _, _, _⟩) (v := ?_) rfl (by kernel_rfl) (by kernel_rfl) (by kernel_rfl) (fun _ _ _ h => h) (Or.inl ⟨by rfl, by (intro w hSw; (try dsimp only at hSw); go_simp; try with_reducible rfl)⟩) hHeld ?_
                      try simp only [Act.put, List.setIfInBounds_toArray, List.set_cons_zero, List.set_cons_succ]
                      refine wpAnyH_ready (rs := [2]) (by kernel_rfl) (by simp) ?_
                      refine AllReadyH.cons (o := ⟨none, _, _, _, _, _⟩) rfl (fun K hK => ?_) ?_
                      · obtain ⟨⟨d0, d1, d2, d3, d4, d5, d6, d7, d8⟩, g0, g1, g2, g3, g4, g5, g6, g7, g8⟩ := nine HMd0.out
                        go_simp
                        have HMc35 := Lib.hid (N9.put (HMd0.out) (.int .u64 (e : Int)) (.int .u64 (v : Int)) (.int .u64 (nn : Int)) (.int .u64 (x : Int)) (.string ⟨#[]⟩) (.bool o) (.int .u64 (b : Int)) (.int .u64 (c : Int)) (.int .i64 0))
                        have HNc35 := Lib.hid (N9.putted (HNd0.out) (g := w.heap.size + 1) (by omega) (.int .u64 (e : Int)) (.int .u64 (v : Int)) (.int .u64 (nn : Int)) (.int .u64 (x : Int)) (.string ⟨#[]⟩) (.bool o) (.int .u64 (b : Int)) (.int .u64 (c : Int)) (.int .i64 0))
                        have HOc35 := Lib.hid ((put_other (w := wd0) (g := w.heap.size + 1) (q := w.heap.size + 1 + 1) (by omega) (.int .u64 (e : Int)) (.int .u64 (v : Int)) (.int .u64 (nn : Int)) (.int .u64 (x : Int)) (.string ⟨#[]⟩) (.bool o) (.int .u64 (b : Int)) (.int .u64 (c : Int)) (.int .i64 0)).trans HOd0.out)
                        have HQc35 := Lib.hid ((put_other (w := wd0) (g := w.heap.size + 1) (q := w.heap.size + 1 + 1 + 1) (by omega) (.int .u64 (e : Int)) (.int .u64 (v : Int)) (.int .u64 (nn : Int)) (.int .u64 (x : Int)) (.string ⟨#[]⟩) (.bool o) (.int .u64 (b : Int)) (.int .u64 (c : Int)) (.int .i64 0)).trans HQd0.out)
                        have HBc35 := Lib.hid (set9 (g := w.heap.size + 1) (by omega) HBd0.out (.int .u64 (e : Int)) (.int .u64 (v : Int)) (.int .u64 (nn : Int)) (.int .u64 (x : Int)) (.string ⟨#[]⟩) (.bool o) (.int .u64 (b : Int)) (.int .u64 (c : Int)) (.int .i64 0))
                        refine hK.out _ _ ⟨N9.range HNc35.out, (three HQc35.out).1⟩ (fun hHeld2 => ?_)
                        clear hHeld
                        have hHeld := hHeld2
                        clear hHeld2
                        clear hK K HNd0 HMd0 HOd0 HQd0 HBd0
                        clear d0 d1 d2 d3 d4 d5 d6 d7 d8 g0 g1 g2 g3 g4 g5 g6 g7 g8
                        try simp only [Act.put, List.setIfInBounds_toArray, List.set_cons_zero, List.set_cons_succ]
                        generalize (((((((((wd0.setCell ⟨w.heap.size + 1, 0, none⟩ (.int .u64 (e : Int))).setCell ⟨w.heap.size + 1, 1, none⟩ (.int .u64 (v : Int))).setCell ⟨w.heap.size + 1, 2, none⟩ (.int .u64 (nn : Int))).setCell ⟨w.heap.size + 1, 3, none⟩ (.int .u64 (x : Int))).setCell ⟨w.heap.size + 1, 4, none⟩ (.string ⟨#[]⟩)).setCell ⟨w.heap.size + 1, 5, none⟩ (.bool o)).setCell ⟨w.heap.size + 1, 6, none⟩ (.int .u64 (b : Int))).setCell ⟨w.heap.size + 1, 7, none⟩ (.int .u64 (c : Int))).setCell ⟨w.heap.size + 1, 8, none⟩ (.int .i64 0)) = wc35 at *
                        refine wpAnyH_ready (rs := [3]) (by kernel_rfl) (by simp) ?_
                        refine AllReadyH.cons (o := ⟨none, _, _, _, _, _⟩) rfl (fun K hK => ?_) ?_
                        · obtain ⟨⟨m0, m1, m2⟩, l0, l1, l2⟩ := three HOc35.out
                          go_simp
                          have HOc36 := Lib.hid (put3 HOc35.out (.int .u64 (ver : Int)) (.int .u64 (nn : Int)) (.string mb))
                          have HNc36 := Lib.hid ((put3_other (w := wc35) (g := w.heap.size + 1 + 1) (q := w.heap.size) (by omega) (.int .u64 (ver : Int)) (.int .u64 (nn : Int)) (.string mb)).trans HNc35.out)
                          have HMc36 := Lib.hid ((put3_other (w := wc35) (g := w.heap.size + 1 + 1) (q := w.heap.size + 1) (by omega) (.int .u64 (ver : Int)) (.int .u64 (nn : Int)) (.string mb)).trans HMc35.out)
                          have HQc36 := Lib.hid ((put3_other (w := wc35) (g := w.heap.size + 1 + 1) (q := w.heap.size + 1 + 1 + 1) (by omega) (.int .u64 (ver : Int)) (.int .u64 (nn : Int)) (.string mb)).trans HQc35.out)
                          have HBc36 := Lib.hid (set3 (g := w.heap.size + 1 + 1) (by omega) HBc35.out (.int .u64 (ver : Int)) (.int .u64 (nn : Int)) (.string mb))
                          refine hK.out _ _ ⟨N9.range HNc36.out, (three HQc36.out).1⟩ (fun hHeld2 => ?_)
                          clear hHeld
                          have hHeld := hHeld2
                          clear hHeld2
                          clear hK K HNc35 HMc35 HOc35 HQc35 HBc35
                          clear m0 m1 m2 l0 l1 l2
                          try simp only [Act.put, List.setIfInBounds_toArray, List.set_cons_zero, List.set_cons_succ]
                          generalize (((wc35.setCell ⟨w.heap.size + 1 + 1, 0, none⟩ (.int .u64 (ver : Int))).setCell ⟨w.heap.size + 1 + 1, 1, none⟩ (.int .u64 (nn : Int))).setCell ⟨w.heap.size + 1 + 1, 2, none⟩ (.string mb)) = wc36 at *
                          refine wpAnyH_take (i := 4) (oi := ⟨some 6, _, _, _, _, _⟩) (v := ?_) rfl (by kernel_rfl) (by kernel_rfl) (by kernel_rfl) (fun _ _ _ h => h) (Or.inl ⟨by rfl, by (intro w hSw; (try dsimp only at hSw); go_simp; try with_reducible rfl)⟩) hHeld ?_
                          try simp only [Act.put, List.setIfInBounds_toArray, List.set_cons_zero, List.set_cons_succ]
                          refine wpAnyH_take (i := 5) (oi := ⟨some 7, _, _, _, _, _⟩) (v := ?_) rfl (by kernel_rfl) (by kernel_rfl) (by kernel_rfl) (fun _ _ _ h => h) (Or.inl ⟨by rfl, by (intro w hSw; (try dsimp only at hSw); go_simp; try with_reducible rfl)⟩) hHeld ?_
                          try simp only [Act.put, List.setIfInBounds_toArray, List.set_cons_zero, List.set_cons_succ]
                          refine wpAnyH_done (by kernel_rfl) ?_ _
                          simp only [Exit.then]
                          apply_assumption
                          obtain ⟨⟨d0, d1, d2, d3, d4, d5, d6, d7, d8⟩, g0, g1, g2, g3, g4, g5, g6, g7, g8⟩ := nine HMc36.out
                          obtain ⟨⟨m0, m1, m2⟩, l0, l1, l2⟩ := three HOc36.out
                          go_wp2
                          simp only [Exit.jump]
                          refine bodyPost_ret (v := .tuple #[.agg #[.int .u64 (e : Int), .int .u64 (v : Int), .int .u64 (nn : Int), .int .u64 (x : Int), .string ⟨#[]⟩, .bool o, .int .u64 (b : Int), .int .u64 (c : Int), .int .i64 0], .agg #[.int .u64 (ver : Int), .int .u64 (nn : Int), .string mb], .string ⟨#[]⟩, .int .i64 0]) (by simp [results, Try.results14, go_sem, *]) rfl ⟨rfl, ?_⟩
                          exact HBc36.out
                        · exact AllReadyH.nil
                      · exact AllReadyH.nil
                    · exact AllReadyH.nil
                  · exact AllReadyH.nil
                · exact AllReadyH.nil
              · exact AllReadyH.nil
            · exact AllReadyH.nil
        · exact AllReadyH.nil
    · exact AllReadyH.nil
  · rintro a wz ⟨⟩
end Go.Proofs.Ytdojepkmjifoeaa
