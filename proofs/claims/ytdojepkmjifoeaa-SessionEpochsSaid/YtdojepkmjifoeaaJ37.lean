/- The law SessionEpochs: a region in which Take is asked. -/
import Derived.Test.YtdojepkmjifoeaaJ36
set_option linter.unusedVariables false
set_option linter.unusedSimpArgs false
namespace Go.Proofs.Ytdojepkmjifoeaa
open Go.RowKit

set_option maxRecDepth 1000000 in
set_option maxHeartbeats 64000000 in
theorem reg13 {w : World} {g5 e v n x b c e2 v2 n2 x2 b2 c2 ov on p1 p2 q : Nat} {r r2 ob M R : ByteArray} {o o2 : Bool} {t t2 C : Int} {x0 x1 x6 x7 x8 x18 x19 x20 x22 x31 x32 : Value} {u : Nat → Value} {q1 : Nat} (hqb : q ≤ 1000) (hq : (q1 : Int) - 1 = (q : Int)) (hp1 : p1 = 1) (hp2 : p2 = 1)
    (HN : Hid (N9 w g5 (.int .u64 (e : Int)) (.int .u64 (v : Int)) (.int .u64 (n : Int)) (.int .u64 (x : Int)) (.string r) (.bool o) (.int .u64 (b : Int)) (.int .u64 (c : Int)) (.int .i64 t))) (K7 : Hid (∀ (wz : World) (B : Nat), wz.heap[B]? = some (.cells #[.int .u64 (p1 : Int), .int .u64 (p2 : Int)] 22 (0, 0)) → Calls Try.prog 7 #[.int .i64 2, .int .u64 (q : Int), .string ⟨#[120]⟩, .slice (some ⟨B, 0, none⟩) 2 2] wz fun z w' => z = .returned (.string M) ∧ Below wz.heap.size wz w')) (K14 : Hid (∀ w, Calls Try.prog 14 #[.agg #[.int .u64 (e : Int), .int .u64 (v : Int), .int .u64 (n : Int), .int .u64 (x : Int), .string r, .bool o, .int .u64 (b : Int), .int .u64 (c : Int), .int .i64 t], .string M] w fun z w' => z = .returned (.tuple #[.agg #[.int .u64 (e2 : Int), .int .u64 (v2 : Int), .int .u64 (n2 : Int), .int .u64 (x2 : Int), .string r2, .bool o2, .int .u64 (b2 : Int), .int .u64 (c2 : Int), .int .i64 t2], .agg #[.int .u64 (ov : Int), .int .u64 (on : Int), .string ob], .string R, .int .i64 C]) ∧ Below w.heap.size w w')) :
    Code.wp Try.prog rg13 (fun ee a' w' => ee = .normal ∧ ∃ gA gO, RR w g5 x0 x1 x6 x7 x8 (.int .u64 (q1 : Int)) (.int .i64 C) x19 x20 x22 x31 x32 gA gO ⟨e2, v2, n2, x2, r2, o2, b2, c2, t2⟩ ov on ob a' w') (fe g5 x0 x1 x6 x7 x8 (.int .u64 (q1 : Int)) x18 x19 x20 x22 x31 x32 u) w := by
  conv => arg 2; whnf
  unfold fe
  subst hp1 hp2
  have hw : IntKind.u64.wrap (q : Int) = (q : Int) := IntWalk.u64_in _ ⟨by omega, by omega⟩
  have mkS : Hid (∀ wz, Below w.heap.size w wz → (wz.rangeAt g5 0 [.int .u64 (e : Int), .int .u64 (v : Int), .int .u64 (n : Int), .int .u64 (x : Int), .string r, .bool o, .int .u64 (b : Int), .int .u64 (c : Int), .int .i64 t] ∧ Hid (Below w.heap.size w wz))) := Lib.hid (fun wz h => ⟨N9.range (N9.later HN.out h), Lib.hid h⟩)
  have HB0 := Lib.hid (show Below w.heap.size w w.drew from (Below.refl _ _).drew)
  refine wp_region_held_drew (S := (fun wz => wz.rangeAt g5 0 [.int .u64 (e : Int), .int .u64 (v : Int), .int .u64 (n : Int), .int .u64 (x : Int), .string r, .bool o, .int .u64 (b : Int), .int .u64 (c : Int), .int .i64 t] ∧ Hid (Below w.heap.size w wz))) (by kernel_rfl) (mkS.out _ HB0.out) (fun hHeld => ?_)
  generalize w.drew = wc0 at *
  refine wpAnyH_take (i := 0) (oi := ⟨some 72, _, _, _, _, _⟩) (v := .agg ([.int .u64 (e : Int), .int .u64 (v : Int), .int .u64 (n : Int), .int .u64 (x : Int), .string r, .bool o, .int .u64 (b : Int), .int .u64 (c : Int), .int .i64 t]).toArray) rfl (by kernel_rfl) (by kernel_rfl) (by kernel_rfl) (fun _ _ _ h => by cases h.1) (yieldsIf_load_mid (by rfl) 39 (.tmp 5) rfl (g5) (0) rfl ([.int .u64 (e : Int), .int .u64 (v : Int), .int .u64 (n : Int), .int .u64 (x : Int), .string r, .bool o, .int .u64 (b : Int), .int .u64 (c : Int), .int .i64 t]) _ (fun w hSw => hSw.1) Try.underlying39 rfl info39) hHeld ?_
  try simp only [Act.put, List.setIfInBounds_toArray, List.set_cons_zero, List.set_cons_succ]
  refine wpAnyH_take (i := 1) (oi := ⟨some 73, _, _, _, _, _⟩) (v := ?_) rfl (by kernel_rfl) (by kernel_rfl) (by kernel_rfl) (fun _ _ _ h => by cases h.1) (Or.inl ⟨by rfl, by (intro w hSw; (try dsimp only at hSw); go_simp; try with_reducible rfl)⟩) hHeld ?_
  try simp only [Act.put, List.setIfInBounds_toArray, List.set_cons_zero, List.set_cons_succ]
  refine wpAnyH_take (i := 2) (oi := ⟨some 74, _, _, _, _, _⟩) (v := ?_) rfl (by kernel_rfl) (by kernel_rfl) (by kernel_rfl) (fun _ _ _ h => by cases h.1) (Or.inl ⟨by rfl, by (intro w hSw; (try dsimp only at hSw); go_simp; try with_reducible rfl)⟩) hHeld ?_
  try simp only [Act.put, List.setIfInBounds_toArray, List.set_cons_zero, List.set_cons_succ]
  refine wpAnyH_ready (rs := [3, 11, 12]) (by kernel_rfl) (by simp) ?_
  refine AllReadyH.cons (o := ⟨some 75, _, _, _, _, _⟩) rfl (fun K hK => ?_) ?_
  · go_simp
    have hbn := alloc_below wc0 (.cells #[.int .u64 1, .int .u64 1] 22)
    have HSc1 := Lib.hid (heap_alloc_new wc0 (.cells #[.int .u64 1, .int .u64 1] 22))
    have HBc1 := Lib.hid (HB0.out.trans (hbn.mono HB0.out.size))
    refine hK.out _ _ (mkS.out _ HBc1.out) (fun hHeld2 => ?_)
    clear hK K hHeld
    have hHeld := hHeld2
    clear hHeld2
    clear hbn HB0
    try simp only [Act.put, List.setIfInBounds_toArray, List.set_cons_zero, List.set_cons_succ]
    generalize wc0.alloc (.cells #[.int .u64 1, .int .u64 1] 22) = wc1 at *
    generalize wc0.heap.size = gS at *
    refine wpAnyH_ready (rs := [4, 11, 12]) (by kernel_rfl) (by simp) ?_
    refine AllReadyH.cons (o := ⟨some 76, _, _, _, _, _⟩) rfl (fun K hK => ?_) ?_
    · go_simp
      refine (K7.out _ gS HSc1.out).mono ?_
      rintro ze wc2 ⟨rfl, hbn⟩
      try go_simp
      have HSc2 := Lib.hid ((hbn.block _ (lt_of_heap HSc1.out)).trans HSc1.out)
      have HBc2 := Lib.hid (HBc1.out.trans (hbn.mono HBc1.out.size))
      refine hK.out _ _ (mkS.out _ HBc2.out) (fun hHeld2 => ?_)
      clear hK K hHeld
      have hHeld := hHeld2
      clear hHeld2
      clear hbn HBc1 HSc1
      try simp only [Act.put, List.setIfInBounds_toArray, List.set_cons_zero, List.set_cons_succ]
      refine wpAnyH_ready (rs := [5, 11, 12]) (by kernel_rfl) (by simp) ?_
      refine AllReadyH.cons (o := ⟨some 77, _, _, _, _, _⟩) rfl (fun K hK => ?_) ?_
      · go_simp
        refine (K14.out _).mono ?_
        rintro ze wc3 ⟨rfl, hbn⟩
        try go_simp
        have HSc3 := Lib.hid ((hbn.block _ (lt_of_heap HSc2.out)).trans HSc2.out)
        have HBc3 := Lib.hid (HBc2.out.trans (hbn.mono HBc2.out.size))
        refine hK.out _ _ (mkS.out _ HBc3.out) (fun hHeld2 => ?_)
        clear hK K hHeld
        have hHeld := hHeld2
        clear hHeld2
        clear hbn HBc2 HSc2
        try simp only [Act.put, List.setIfInBounds_toArray, List.set_cons_zero, List.set_cons_succ]
        refine wpAnyH_take (i := 6) (oi := ⟨some 71, _, _, _, _, _⟩) (v := ?_) rfl (by kernel_rfl) (by kernel_rfl) (by kernel_rfl) (fun _ _ _ h => by cases h.1) (Or.inl ⟨by rfl, by (intro w hSw; (try dsimp only at hSw); go_simp; try with_reducible rfl)⟩) hHeld ?_
        try simp only [Act.put, List.setIfInBounds_toArray, List.set_cons_zero, List.set_cons_succ]
        refine wpAnyH_take (i := 7) (oi := ⟨some 78, _, _, _, _, _⟩) (v := ?_) rfl (by kernel_rfl) (by kernel_rfl) (by kernel_rfl) (fun _ _ _ h => by cases h.1) (Or.inl ⟨by rfl, by (intro w hSw; (try dsimp only at hSw); go_simp; try with_reducible rfl)⟩) hHeld ?_
        try simp only [Act.put, List.setIfInBounds_toArray, List.set_cons_zero, List.set_cons_succ]
        refine wpAnyH_take (i := 8) (oi := ⟨some 79, _, _, _, _, _⟩) (v := ?_) rfl (by kernel_rfl) (by kernel_rfl) (by kernel_rfl) (fun _ _ _ h => by cases h.1) (Or.inl ⟨by rfl, by (intro w hSw; (try dsimp only at hSw); go_simp; try with_reducible rfl)⟩) hHeld ?_
        try simp only [Act.put, List.setIfInBounds_toArray, List.set_cons_zero, List.set_cons_succ]
        refine wpAnyH_take (i := 9) (oi := ⟨some 80, _, _, _, _, _⟩) (v := ?_) rfl (by kernel_rfl) (by kernel_rfl) (by kernel_rfl) (fun _ _ _ h => by cases h.1) (Or.inl ⟨by rfl, by (intro w hSw; (try dsimp only at hSw); go_simp; try with_reducible rfl)⟩) hHeld ?_
        try simp only [Act.put, List.setIfInBounds_toArray, List.set_cons_zero, List.set_cons_succ]
        refine wpAnyH_take (i := 10) (oi := ⟨some 81, _, _, _, _, _⟩) (v := ?_) rfl (by kernel_rfl) (by kernel_rfl) (by kernel_rfl) (fun _ _ _ h => by cases h.1) (Or.inl ⟨by rfl, by (intro w hSw; (try dsimp only at hSw); go_simp; try with_reducible rfl)⟩) hHeld ?_
        try simp only [Act.put, List.setIfInBounds_toArray, List.set_cons_zero, List.set_cons_succ]
        refine wpAnyH_ready (rs := [11, 12]) (by kernel_rfl) (by simp) ?_
        refine AllReadyH.cons (o := ⟨some 15, _, _, _, _, _⟩) rfl (fun K hK => ?_) ?_
        · go_simp
          have hbn := alloc_below wc3 (.cells #[.int .u64 0, .int .u64 0, .int .u64 0, .int .u64 0, .string ⟨#[]⟩, .bool false, .int .u64 0, .int .u64 0, .int .i64 0] 39)
          have HSc4 := Lib.hid ((hbn.block _ (lt_of_heap HSc3.out)).trans HSc3.out)
          have HAc4 : Hid (N9 (wc3.alloc (.cells #[.int .u64 0, .int .u64 0, .int .u64 0, .int .u64 0, .string ⟨#[]⟩, .bool false, .int .u64 0, .int .u64 0, .int .i64 0] 39)) wc3.heap.size (.int .u64 0) (.int .u64 0) (.int .u64 0) (.int .u64 0) (.string ⟨#[]⟩) (.bool false) (.int .u64 0) (.int .u64 0) (.int .i64 0)) := Lib.hid (heap_alloc_new wc3 _)
          have HBc4 := Lib.hid (HBc3.out.trans (hbn.mono HBc3.out.size))
          have HGA := Lib.hid HBc3.out.size
          refine hK.out _ _ (mkS.out _ HBc4.out) (fun hHeld2 => ?_)
          clear hK K hHeld
          have hHeld := hHeld2
          clear hHeld2
          clear hbn HBc3 HSc3
          try simp only [Act.put, List.setIfInBounds_toArray, List.set_cons_zero, List.set_cons_succ]
          generalize wc3.alloc (.cells #[.int .u64 0, .int .u64 0, .int .u64 0, .int .u64 0, .string ⟨#[]⟩, .bool false, .int .u64 0, .int .u64 0, .int .i64 0] 39) = wc4 at *
          generalize wc3.heap.size = gA at *
          refine wpAnyH_ready (rs := [12]) (by kernel_rfl) (by simp) ?_
          refine AllReadyH.cons (o := ⟨some 16, _, _, _, _, _⟩) rfl (fun K hK => ?_) ?_
          · go_simp
            have hbn := alloc_below wc4 (.cells #[.int .u64 0, .int .u64 0, .string ⟨#[]⟩] 47)
            have HSc5 := Lib.hid ((hbn.block _ (lt_of_heap HSc4.out)).trans HSc4.out)
            have HAc5 := Lib.hid (N9.later HAc4.out hbn)
            have HOc5 := Lib.hid (heap_alloc_new wc4 (.cells #[.int .u64 0, .int .u64 0, .string ⟨#[]⟩] 47))
            have HBc5 := Lib.hid (HBc4.out.trans (hbn.mono HBc4.out.size))
            have HGO := Lib.hid HBc4.out.size
            have HNE : Hid (gA ≠ wc4.heap.size) := Lib.hid (Nat.ne_of_lt (lt_of_heap HAc4.out))
            refine hK.out _ _ (mkS.out _ HBc5.out) (fun hHeld2 => ?_)
            clear hK K hHeld
            have hHeld := hHeld2
            clear hHeld2
            clear hbn HBc4 HSc4 HAc4
            try simp only [Act.put, List.setIfInBounds_toArray, List.set_cons_zero, List.set_cons_succ]
            generalize wc4.alloc (.cells #[.int .u64 0, .int .u64 0, .string ⟨#[]⟩] 47) = wc5 at *
            generalize wc4.heap.size = gO at *
            refine wpAnyH_ready (rs := [13]) (by kernel_rfl) (by simp) ?_
            refine AllReadyH.cons (o := ⟨none, _, _, _, _, _⟩) rfl (fun K hK => ?_) ?_
            · obtain ⟨⟨d0, d1, d2, d3, d4, d5, d6, d7, d8⟩, g0, g1, g2, g3, g4, g5, g6, g7, g8⟩ := nine HAc5.out
              go_simp
              have HAc6 := Lib.hid (N9.put HAc5.out (.int .u64 (e2 : Int)) (.int .u64 (v2 : Int)) (.int .u64 (n2 : Int)) (.int .u64 (x2 : Int)) (.string r2) (.bool o2) (.int .u64 (b2 : Int)) (.int .u64 (c2 : Int)) (.int .i64 t2))
              have HOc6 := Lib.hid ((put_other (w := wc5) (g := gA) (q := gO) (Ne.symm HNE.out) (.int .u64 (e2 : Int)) (.int .u64 (v2 : Int)) (.int .u64 (n2 : Int)) (.int .u64 (x2 : Int)) (.string r2) (.bool o2) (.int .u64 (b2 : Int)) (.int .u64 (c2 : Int)) (.int .i64 t2)).trans HOc5.out)
              have HBc6 := Lib.hid (set9 (g := gA) HGA.out HBc5.out (.int .u64 (e2 : Int)) (.int .u64 (v2 : Int)) (.int .u64 (n2 : Int)) (.int .u64 (x2 : Int)) (.string r2) (.bool o2) (.int .u64 (b2 : Int)) (.int .u64 (c2 : Int)) (.int .i64 t2))
              refine hK.out _ _ (mkS.out _ HBc6.out) (fun hHeld2 => ?_)
              clear hK K hHeld
              have hHeld := hHeld2
              clear hHeld2
              clear HBc5 HSc5 HAc5 HOc5
              clear d0 d1 d2 d3 d4 d5 d6 d7 d8 g0 g1 g2 g3 g4 g5 g6 g7 g8
              try simp only [Act.put, List.setIfInBounds_toArray, List.set_cons_zero, List.set_cons_succ]
              generalize (((((((((wc5.setCell ⟨gA, 0, none⟩ (.int .u64 (e2 : Int))).setCell ⟨gA, 1, none⟩ (.int .u64 (v2 : Int))).setCell ⟨gA, 2, none⟩ (.int .u64 (n2 : Int))).setCell ⟨gA, 3, none⟩ (.int .u64 (x2 : Int))).setCell ⟨gA, 4, none⟩ (.string r2)).setCell ⟨gA, 5, none⟩ (.bool o2)).setCell ⟨gA, 6, none⟩ (.int .u64 (b2 : Int))).setCell ⟨gA, 7, none⟩ (.int .u64 (c2 : Int))).setCell ⟨gA, 8, none⟩ (.int .i64 t2)) = wc6 at *
              refine wpAnyH_ready (rs := [14]) (by kernel_rfl) (by simp) ?_
              refine AllReadyH.cons (o := ⟨none, _, _, _, _, _⟩) rfl (fun K hK => ?_) ?_
              · obtain ⟨⟨m0, m1, m2⟩, l0, l1, l2⟩ := three HOc6.out
                go_simp
                have HOc7 := Lib.hid (put3 HOc6.out (.int .u64 (ov : Int)) (.int .u64 (on : Int)) (.string ob))
                have HAc7 := Lib.hid ((put3_other (w := wc6) (g := gO) (q := gA) HNE.out (.int .u64 (ov : Int)) (.int .u64 (on : Int)) (.string ob)).trans HAc6.out)
                have HBc7 := Lib.hid (set3 (g := gO) HGO.out HBc6.out (.int .u64 (ov : Int)) (.int .u64 (on : Int)) (.string ob))
                refine hK.out _ _ (mkS.out _ HBc7.out) (fun hHeld2 => ?_)
                clear hK K hHeld
                have hHeld := hHeld2
                clear hHeld2
                clear HBc6 HAc6 HOc6 m0 m1 m2 l0 l1 l2
                try simp only [Act.put, List.setIfInBounds_toArray, List.set_cons_zero, List.set_cons_succ]
                generalize (((wc6.setCell ⟨gO, 0, none⟩ (.int .u64 (ov : Int))).setCell ⟨gO, 1, none⟩ (.int .u64 (on : Int))).setCell ⟨gO, 2, none⟩ (.string ob)) = wc7 at *
                refine wpAnyH_take (i := 15) (oi := ⟨some 17, _, _, _, _, _⟩) (v := ?_) rfl (by kernel_rfl) (by kernel_rfl) (by kernel_rfl) (fun _ _ _ h => by cases h.1) (Or.inl ⟨by rfl, by (intro w hSw; (try dsimp only at hSw); go_simp; try with_reducible rfl)⟩) hHeld ?_
                try simp only [Act.put, List.setIfInBounds_toArray, List.set_cons_zero, List.set_cons_succ]
                refine wpAnyH_take (i := 16) (oi := ⟨some 18, _, _, _, _, _⟩) (v := ?_) rfl (by kernel_rfl) (by kernel_rfl) (by kernel_rfl) (fun _ _ _ h => by cases h.1) (Or.inl ⟨by rfl, by (intro w hSw; (try dsimp only at hSw); go_simp; try with_reducible rfl)⟩) hHeld ?_
                try simp only [Act.put, List.setIfInBounds_toArray, List.set_cons_zero, List.set_cons_succ]
                refine wpAnyH_done (by kernel_rfl) ?_ _
                exact ⟨rfl, gA, gO, ⟨rfl, HGA.out, HGO.out, HNE.out, HAc7.out, HOc7.out, HBc7.out⟩⟩
              · exact AllReadyH.nil
            · exact AllReadyH.nil
          · exact AllReadyH.nil
        · refine AllReadyH.cons (o := ⟨some 16, _, _, _, _, _⟩) rfl (fun K hK => ?_) ?_
          · go_simp
            have hbn := alloc_below wc3 (.cells #[.int .u64 0, .int .u64 0, .string ⟨#[]⟩] 47)
            have HSc4 := Lib.hid ((hbn.block _ (lt_of_heap HSc3.out)).trans HSc3.out)
            have HOc4 := Lib.hid (heap_alloc_new wc3 (.cells #[.int .u64 0, .int .u64 0, .string ⟨#[]⟩] 47))
            have HBc4 := Lib.hid (HBc3.out.trans (hbn.mono HBc3.out.size))
            have HGO := Lib.hid HBc3.out.size
            refine hK.out _ _ (mkS.out _ HBc4.out) (fun hHeld2 => ?_)
            clear hK K hHeld
            have hHeld := hHeld2
            clear hHeld2
            clear hbn HBc3 HSc3
            try simp only [Act.put, List.setIfInBounds_toArray, List.set_cons_zero, List.set_cons_succ]
            generalize wc3.alloc (.cells #[.int .u64 0, .int .u64 0, .string ⟨#[]⟩] 47) = wc4 at *
            generalize wc3.heap.size = gO at *
            refine wpAnyH_ready (rs := [11]) (by kernel_rfl) (by simp) ?_
            refine AllReadyH.cons (o := ⟨some 15, _, _, _, _, _⟩) rfl (fun K hK => ?_) ?_
            · go_simp
              have hbn := alloc_below wc4 (.cells #[.int .u64 0, .int .u64 0, .int .u64 0, .int .u64 0, .string ⟨#[]⟩, .bool false, .int .u64 0, .int .u64 0, .int .i64 0] 39)
              have HSc5 := Lib.hid ((hbn.block _ (lt_of_heap HSc4.out)).trans HSc4.out)
              have HOc5 := Lib.hid ((hbn.block _ (lt_of_heap HOc4.out)).trans HOc4.out)
              have HAc5 : Hid (N9 (wc4.alloc (.cells #[.int .u64 0, .int .u64 0, .int .u64 0, .int .u64 0, .string ⟨#[]⟩, .bool false, .int .u64 0, .int .u64 0, .int .i64 0] 39)) wc4.heap.size (.int .u64 0) (.int .u64 0) (.int .u64 0) (.int .u64 0) (.string ⟨#[]⟩) (.bool false) (.int .u64 0) (.int .u64 0) (.int .i64 0)) := Lib.hid (heap_alloc_new wc4 _)
              have HBc5 := Lib.hid (HBc4.out.trans (hbn.mono HBc4.out.size))
              have HGA := Lib.hid HBc4.out.size
              have HNE : Hid (wc4.heap.size ≠ gO) := Lib.hid (Ne.symm (Nat.ne_of_lt (lt_of_heap HOc4.out)))
              refine hK.out _ _ (mkS.out _ HBc5.out) (fun hHeld2 => ?_)
              clear hK K hHeld
              have hHeld := hHeld2
              clear hHeld2
              clear hbn HBc4 HSc4 HOc4
              try simp only [Act.put, List.setIfInBounds_toArray, List.set_cons_zero, List.set_cons_succ]
              generalize wc4.alloc (.cells #[.int .u64 0, .int .u64 0, .int .u64 0, .int .u64 0, .string ⟨#[]⟩, .bool false, .int .u64 0, .int .u64 0, .int .i64 0] 39) = wc5 at *
              generalize wc4.heap.size = gA at *
              refine wpAnyH_ready (rs := [13]) (by kernel_rfl) (by simp) ?_
              refine AllReadyH.cons (o := ⟨none, _, _, _, _, _⟩) rfl (fun K hK => ?_) ?_
              · obtain ⟨⟨d0, d1, d2, d3, d4, d5, d6, d7, d8⟩, g0, g1, g2, g3, g4, g5, g6, g7, g8⟩ := nine HAc5.out
                go_simp
                have HAc6 := Lib.hid (N9.put HAc5.out (.int .u64 (e2 : Int)) (.int .u64 (v2 : Int)) (.int .u64 (n2 : Int)) (.int .u64 (x2 : Int)) (.string r2) (.bool o2) (.int .u64 (b2 : Int)) (.int .u64 (c2 : Int)) (.int .i64 t2))
                have HOc6 := Lib.hid ((put_other (w := wc5) (g := gA) (q := gO) (Ne.symm HNE.out) (.int .u64 (e2 : Int)) (.int .u64 (v2 : Int)) (.int .u64 (n2 : Int)) (.int .u64 (x2 : Int)) (.string r2) (.bool o2) (.int .u64 (b2 : Int)) (.int .u64 (c2 : Int)) (.int .i64 t2)).trans HOc5.out)
                have HBc6 := Lib.hid (set9 (g := gA) HGA.out HBc5.out (.int .u64 (e2 : Int)) (.int .u64 (v2 : Int)) (.int .u64 (n2 : Int)) (.int .u64 (x2 : Int)) (.string r2) (.bool o2) (.int .u64 (b2 : Int)) (.int .u64 (c2 : Int)) (.int .i64 t2))
                refine hK.out _ _ (mkS.out _ HBc6.out) (fun hHeld2 => ?_)
                clear hK K hHeld
                have hHeld := hHeld2
                clear hHeld2
                clear HBc5 HSc5 HAc5 HOc5
                clear d0 d1 d2 d3 d4 d5 d6 d7 d8 g0 g1 g2 g3 g4 g5 g6 g7 g8
                try simp only [Act.put, List.setIfInBounds_toArray, List.set_cons_zero, List.set_cons_succ]
                generalize (((((((((wc5.setCell ⟨gA, 0, none⟩ (.int .u64 (e2 : Int))).setCell ⟨gA, 1, none⟩ (.int .u64 (v2 : Int))).setCell ⟨gA, 2, none⟩ (.int .u64 (n2 : Int))).setCell ⟨gA, 3, none⟩ (.int .u64 (x2 : Int))).setCell ⟨gA, 4, none⟩ (.string r2)).setCell ⟨gA, 5, none⟩ (.bool o2)).setCell ⟨gA, 6, none⟩ (.int .u64 (b2 : Int))).setCell ⟨gA, 7, none⟩ (.int .u64 (c2 : Int))).setCell ⟨gA, 8, none⟩ (.int .i64 t2)) = wc6 at *
                refine wpAnyH_ready (rs := [14]) (by kernel_rfl) (by simp) ?_
                refine AllReadyH.cons (o := ⟨none, _, _, _, _, _⟩) rfl (fun K hK => ?_) ?_
                · obtain ⟨⟨m0, m1, m2⟩, l0, l1, l2⟩ := three HOc6.out
                  go_simp
                  have HOc7 := Lib.hid (put3 HOc6.out (.int .u64 (ov : Int)) (.int .u64 (on : Int)) (.string ob))
                  have HAc7 := Lib.hid ((put3_other (w := wc6) (g := gO) (q := gA) HNE.out (.int .u64 (ov : Int)) (.int .u64 (on : Int)) (.string ob)).trans HAc6.out)
                  have HBc7 := Lib.hid (set3 (g := gO) HGO.out HBc6.out (.int .u64 (ov : Int)) (.int .u64 (on : Int)) (.string ob))
                  refine hK.out _ _ (mkS.out _ HBc7.out) (fun hHeld2 => ?_)
                  clear hK K hHeld
                  have hHeld := hHeld2
                  clear hHeld2
                  clear HBc6 HAc6 HOc6 m0 m1 m2 l0 l1 l2
                  try simp only [Act.put, List.setIfInBounds_toArray, List.set_cons_zero, List.set_cons_succ]
                  generalize (((wc6.setCell ⟨gO, 0, none⟩ (.int .u64 (ov : Int))).setCell ⟨gO, 1, none⟩ (.int .u64 (on : Int))).setCell ⟨gO, 2, none⟩ (.string ob)) = wc7 at *
                  refine wpAnyH_take (i := 15) (oi := ⟨some 17, _, _, _, _, _⟩) (v := ?_) rfl (by kernel_rfl) (by kernel_rfl) (by kernel_rfl) (fun _ _ _ h => by cases h.1) (Or.inl ⟨by rfl, by (intro w hSw; (try dsimp only at hSw); go_simp; try with_reducible rfl)⟩) hHeld ?_
                  try simp only [Act.put, List.setIfInBounds_toArray, List.set_cons_zero, List.set_cons_succ]
                  refine wpAnyH_take (i := 16) (oi := ⟨some 18, _, _, _, _, _⟩) (v := ?_) rfl (by kernel_rfl) (by kernel_rfl) (by kernel_rfl) (fun _ _ _ h => by cases h.1) (Or.inl ⟨by rfl, by (intro w hSw; (try dsimp only at hSw); go_simp; try with_reducible rfl)⟩) hHeld ?_
                  try simp only [Act.put, List.setIfInBounds_toArray, List.set_cons_zero, List.set_cons_succ]
                  refine wpAnyH_done (by kernel_rfl) ?_ _
                  exact ⟨rfl, gA, gO, ⟨rfl, HGA.out, HGO.out, HNE.out, HAc7.out, HOc7.out, HBc7.out⟩⟩
                · exact AllReadyH.nil
              · exact AllReadyH.nil
            · exact AllReadyH.nil
          · exact AllReadyH.nil
      · refine AllReadyH.cons (o := ⟨some 15, _, _, _, _, _⟩) rfl (fun K hK => ?_) ?_
        · go_simp
          have hbn := alloc_below wc2 (.cells #[.int .u64 0, .int .u64 0, .int .u64 0, .int .u64 0, .string ⟨#[]⟩, .bool false, .int .u64 0, .int .u64 0, .int .i64 0] 39)
          have HSc3 := Lib.hid ((hbn.block _ (lt_of_heap HSc2.out)).trans HSc2.out)
          have HAc3 : Hid (N9 (wc2.alloc (.cells #[.int .u64 0, .int .u64 0, .int .u64 0, .int .u64 0, .string ⟨#[]⟩, .bool false, .int .u64 0, .int .u64 0, .int .i64 0] 39)) wc2.heap.size (.int .u64 0) (.int .u64 0) (.int .u64 0) (.int .u64 0) (.string ⟨#[]⟩) (.bool false) (.int .u64 0) (.int .u64 0) (.int .i64 0)) := Lib.hid (heap_alloc_new wc2 _)
          have HBc3 := Lib.hid (HBc2.out.trans (hbn.mono HBc2.out.size))
          have HGA := Lib.hid HBc2.out.size
          refine hK.out _ _ (mkS.out _ HBc3.out) (fun hHeld2 => ?_)
          clear hK K hHeld
          have hHeld := hHeld2
          clear hHeld2
          clear hbn HBc2 HSc2
          try simp only [Act.put, List.setIfInBounds_toArray, List.set_cons_zero, List.set_cons_succ]
          generalize wc2.alloc (.cells #[.int .u64 0, .int .u64 0, .int .u64 0, .int .u64 0, .string ⟨#[]⟩, .bool false, .int .u64 0, .int .u64 0, .int .i64 0] 39) = wc3 at *
          generalize wc2.heap.size = gA at *
          refine wpAnyH_ready (rs := [5, 12]) (by kernel_rfl) (by simp) ?_
          refine AllReadyH.cons (o := ⟨some 77, _, _, _, _, _⟩) rfl (fun K hK => ?_) ?_
          · go_simp
            refine (K14.out _).mono ?_
            rintro ze wc4 ⟨rfl, hbn⟩
            try go_simp
            have HSc4 := Lib.hid ((hbn.block _ (lt_of_heap HSc3.out)).trans HSc3.out)
            have HAc4 := Lib.hid (N9.later HAc3.out hbn)
            have HBc4 := Lib.hid (HBc3.out.trans (hbn.mono HBc3.out.size))
            refine hK.out _ _ (mkS.out _ HBc4.out) (fun hHeld2 => ?_)
            clear hK K hHeld
            have hHeld := hHeld2
            clear hHeld2
            clear hbn HBc3 HSc3 HAc3
            try simp only [Act.put, List.setIfInBounds_toArray, List.set_cons_zero, List.set_cons_succ]
            refine wpAnyH_take (i := 6) (oi := ⟨some 71, _, _, _, _, _⟩) (v := ?_) rfl (by kernel_rfl) (by kernel_rfl) (by kernel_rfl) (fun _ _ _ h => by cases h.1) (Or.inl ⟨by rfl, by (intro w hSw; (try dsimp only at hSw); go_simp; try with_reducible rfl)⟩) hHeld ?_
            try simp only [Act.put, List.setIfInBounds_toArray, List.set_cons_zero, List.set_cons_succ]
            refine wpAnyH_take (i := 7) (oi := ⟨some 78, _, _, _, _, _⟩) (v := ?_) rfl (by kernel_rfl) (by kernel_rfl) (by kernel_rfl) (fun _ _ _ h => by cases h.1) (Or.inl ⟨by rfl, by (intro w hSw; (try dsimp only at hSw); go_simp; try with_reducible rfl)⟩) hHeld ?_
            try simp only [Act.put, List.setIfInBounds_toArray, List.set_cons_zero, List.set_cons_succ]
            refine wpAnyH_take (i := 8) (oi := ⟨some 79, _, _, _, _, _⟩) (v := ?_) rfl (by kernel_rfl) (by kernel_rfl) (by kernel_rfl) (fun _ _ _ h => by cases h.1) (Or.inl ⟨by rfl, by (intro w hSw; (try dsimp only at hSw); go_simp; try with_reducible rfl)⟩) hHeld ?_
            try simp only [Act.put, List.setIfInBounds_toArray, List.set_cons_zero, List.set_cons_succ]
            refine wpAnyH_take (i := 9) (oi := ⟨some 80, _, _, _, _, _⟩) (v := ?_) rfl (by kernel_rfl) (by kernel_rfl) (by kernel_rfl) (fun _ _ _ h => by cases h.1) (Or.inl ⟨by rfl, by (intro w hSw; (try dsimp only at hSw); go_simp; try with_reducible rfl)⟩) hHeld ?_
            try simp only [Act.put, List.setIfInBounds_toArray, List.set_cons_zero, List.set_cons_succ]
            refine wpAnyH_take (i := 10) (oi := ⟨some 81, _, _, _, _, _⟩) (v := ?_) rfl (by kernel_rfl) (by kernel_rfl) (by kernel_rfl) (fun _ _ _ h => by cases h.1) (Or.inl ⟨by rfl, by (intro w hSw; (try dsimp only at hSw); go_simp; try with_reducible rfl)⟩) hHeld ?_
            try simp only [Act.put, List.setIfInBounds_toArray, List.set_cons_zero, List.set_cons_succ]
            refine wpAnyH_ready (rs := [12]) (by kernel_rfl) (by simp) ?_
            refine AllReadyH.cons (o := ⟨some 16, _, _, _, _, _⟩) rfl (fun K hK => ?_) ?_
            · go_simp
              have hbn := alloc_below wc4 (.cells #[.int .u64 0, .int .u64 0, .string ⟨#[]⟩] 47)
              have HSc5 := Lib.hid ((hbn.block _ (lt_of_heap HSc4.out)).trans HSc4.out)
              have HAc5 := Lib.hid (N9.later HAc4.out hbn)
              have HOc5 := Lib.hid (heap_alloc_new wc4 (.cells #[.int .u64 0, .int .u64 0, .string ⟨#[]⟩] 47))
              have HBc5 := Lib.hid (HBc4.out.trans (hbn.mono HBc4.out.size))
              have HGO := Lib.hid HBc4.out.size
              have HNE : Hid (gA ≠ wc4.heap.size) := Lib.hid (Nat.ne_of_lt (lt_of_heap HAc4.out))
              refine hK.out _ _ (mkS.out _ HBc5.out) (fun hHeld2 => ?_)
              clear hK K hHeld
              have hHeld := hHeld2
              clear hHeld2
              clear hbn HBc4 HSc4 HAc4
              try simp only [Act.put, List.setIfInBounds_toArray, List.set_cons_zero, List.set_cons_succ]
              generalize wc4.alloc (.cells #[.int .u64 0, .int .u64 0, .string ⟨#[]⟩] 47) = wc5 at *
              generalize wc4.heap.size = gO at *
              refine wpAnyH_ready (rs := [13]) (by kernel_rfl) (by simp) ?_
              refine AllReadyH.cons (o := ⟨none, _, _, _, _, _⟩) rfl (fun K hK => ?_) ?_
              · obtain ⟨⟨d0, d1, d2, d3, d4, d5, d6, d7, d8⟩, g0, g1, g2, g3, g4, g5, g6, g7, g8⟩ := nine HAc5.out
                go_simp
                have HAc6 := Lib.hid (N9.put HAc5.out (.int .u64 (e2 : Int)) (.int .u64 (v2 : Int)) (.int .u64 (n2 : Int)) (.int .u64 (x2 : Int)) (.string r2) (.bool o2) (.int .u64 (b2 : Int)) (.int .u64 (c2 : Int)) (.int .i64 t2))
                have HOc6 := Lib.hid ((put_other (w := wc5) (g := gA) (q := gO) (Ne.symm HNE.out) (.int .u64 (e2 : Int)) (.int .u64 (v2 : Int)) (.int .u64 (n2 : Int)) (.int .u64 (x2 : Int)) (.string r2) (.bool o2) (.int .u64 (b2 : Int)) (.int .u64 (c2 : Int)) (.int .i64 t2)).trans HOc5.out)
                have HBc6 := Lib.hid (set9 (g := gA) HGA.out HBc5.out (.int .u64 (e2 : Int)) (.int .u64 (v2 : Int)) (.int .u64 (n2 : Int)) (.int .u64 (x2 : Int)) (.string r2) (.bool o2) (.int .u64 (b2 : Int)) (.int .u64 (c2 : Int)) (.int .i64 t2))
                refine hK.out _ _ (mkS.out _ HBc6.out) (fun hHeld2 => ?_)
                clear hK K hHeld
                have hHeld := hHeld2
                clear hHeld2
                clear HBc5 HSc5 HAc5 HOc5
                clear d0 d1 d2 d3 d4 d5 d6 d7 d8 g0 g1 g2 g3 g4 g5 g6 g7 g8
                try simp only [Act.put, List.setIfInBounds_toArray, List.set_cons_zero, List.set_cons_succ]
                generalize (((((((((wc5.setCell ⟨gA, 0, none⟩ (.int .u64 (e2 : Int))).setCell ⟨gA, 1, none⟩ (.int .u64 (v2 : Int))).setCell ⟨gA, 2, none⟩ (.int .u64 (n2 : Int))).setCell ⟨gA, 3, none⟩ (.int .u64 (x2 : Int))).setCell ⟨gA, 4, none⟩ (.string r2)).setCell ⟨gA, 5, none⟩ (.bool o2)).setCell ⟨gA, 6, none⟩ (.int .u64 (b2 : Int))).setCell ⟨gA, 7, none⟩ (.int .u64 (c2 : Int))).setCell ⟨gA, 8, none⟩ (.int .i64 t2)) = wc6 at *
                refine wpAnyH_ready (rs := [14]) (by kernel_rfl) (by simp) ?_
                refine AllReadyH.cons (o := ⟨none, _, _, _, _, _⟩) rfl (fun K hK => ?_) ?_
                · obtain ⟨⟨m0, m1, m2⟩, l0, l1, l2⟩ := three HOc6.out
                  go_simp
                  have HOc7 := Lib.hid (put3 HOc6.out (.int .u64 (ov : Int)) (.int .u64 (on : Int)) (.string ob))
                  have HAc7 := Lib.hid ((put3_other (w := wc6) (g := gO) (q := gA) HNE.out (.int .u64 (ov : Int)) (.int .u64 (on : Int)) (.string ob)).trans HAc6.out)
                  have HBc7 := Lib.hid (set3 (g := gO) HGO.out HBc6.out (.int .u64 (ov : Int)) (.int .u64 (on : Int)) (.string ob))
                  refine hK.out _ _ (mkS.out _ HBc7.out) (fun hHeld2 => ?_)
                  clear hK K hHeld
                  have hHeld := hHeld2
                  clear hHeld2
                  clear HBc6 HAc6 HOc6 m0 m1 m2 l0 l1 l2
                  try simp only [Act.put, List.setIfInBounds_toArray, List.set_cons_zero, List.set_cons_succ]
                  generalize (((wc6.setCell ⟨gO, 0, none⟩ (.int .u64 (ov : Int))).setCell ⟨gO, 1, none⟩ (.int .u64 (on : Int))).setCell ⟨gO, 2, none⟩ (.string ob)) = wc7 at *
                  refine wpAnyH_take (i := 15) (oi := ⟨some 17, _, _, _, _, _⟩) (v := ?_) rfl (by kernel_rfl) (by kernel_rfl) (by kernel_rfl) (fun _ _ _ h => by cases h.1) (Or.inl ⟨by rfl, by (intro w hSw; (try dsimp only at hSw); go_simp; try with_reducible rfl)⟩) hHeld ?_
                  try simp only [Act.put, List.setIfInBounds_toArray, List.set_cons_zero, List.set_cons_succ]
                  refine wpAnyH_take (i := 16) (oi := ⟨some 18, _, _, _, _, _⟩) (v := ?_) rfl (by kernel_rfl) (by kernel_rfl) (by kernel_rfl) (fun _ _ _ h => by cases h.1) (Or.inl ⟨by rfl, by (intro w hSw; (try dsimp only at hSw); go_simp; try with_reducible rfl)⟩) hHeld ?_
                  try simp only [Act.put, List.setIfInBounds_toArray, List.set_cons_zero, List.set_cons_succ]
                  refine wpAnyH_done (by kernel_rfl) ?_ _
                  exact ⟨rfl, gA, gO, ⟨rfl, HGA.out, HGO.out, HNE.out, HAc7.out, HOc7.out, HBc7.out⟩⟩
                · exact AllReadyH.nil
              · exact AllReadyH.nil
            · exact AllReadyH.nil
          · refine AllReadyH.cons (o := ⟨some 16, _, _, _, _, _⟩) rfl (fun K hK => ?_) ?_
            · go_simp
              have hbn := alloc_below wc3 (.cells #[.int .u64 0, .int .u64 0, .string ⟨#[]⟩] 47)
              have HSc4 := Lib.hid ((hbn.block _ (lt_of_heap HSc3.out)).trans HSc3.out)
              have HAc4 := Lib.hid (N9.later HAc3.out hbn)
              have HOc4 := Lib.hid (heap_alloc_new wc3 (.cells #[.int .u64 0, .int .u64 0, .string ⟨#[]⟩] 47))
              have HBc4 := Lib.hid (HBc3.out.trans (hbn.mono HBc3.out.size))
              have HGO := Lib.hid HBc3.out.size
              have HNE : Hid (gA ≠ wc3.heap.size) := Lib.hid (Nat.ne_of_lt (lt_of_heap HAc3.out))
              refine hK.out _ _ (mkS.out _ HBc4.out) (fun hHeld2 => ?_)
              clear hK K hHeld
              have hHeld := hHeld2
              clear hHeld2
              clear hbn HBc3 HSc3 HAc3
              try simp only [Act.put, List.setIfInBounds_toArray, List.set_cons_zero, List.set_cons_succ]
              generalize wc3.alloc (.cells #[.int .u64 0, .int .u64 0, .string ⟨#[]⟩] 47) = wc4 at *
              generalize wc3.heap.size = gO at *
              refine wpAnyH_ready (rs := [5]) (by kernel_rfl) (by simp) ?_
              refine AllReadyH.cons (o := ⟨some 77, _, _, _, _, _⟩) rfl (fun K hK => ?_) ?_
              · go_simp
                refine (K14.out _).mono ?_
                rintro ze wc5 ⟨rfl, hbn⟩
                try go_simp
                have HSc5 := Lib.hid ((hbn.block _ (lt_of_heap HSc4.out)).trans HSc4.out)
                have HAc5 := Lib.hid (N9.later HAc4.out hbn)
                have HOc5 := Lib.hid ((hbn.block _ (lt_of_heap HOc4.out)).trans HOc4.out)
                have HBc5 := Lib.hid (HBc4.out.trans (hbn.mono HBc4.out.size))
                refine hK.out _ _ (mkS.out _ HBc5.out) (fun hHeld2 => ?_)
                clear hK K hHeld
                have hHeld := hHeld2
                clear hHeld2
                clear hbn HBc4 HSc4 HAc4 HOc4
                try simp only [Act.put, List.setIfInBounds_toArray, List.set_cons_zero, List.set_cons_succ]
                refine wpAnyH_take (i := 6) (oi := ⟨some 71, _, _, _, _, _⟩) (v := ?_) rfl (by kernel_rfl) (by kernel_rfl) (by kernel_rfl) (fun _ _ _ h => by cases h.1) (Or.inl ⟨by rfl, by (intro w hSw; (try dsimp only at hSw); go_simp; try with_reducible rfl)⟩) hHeld ?_
                try simp only [Act.put, List.setIfInBounds_toArray, List.set_cons_zero, List.set_cons_succ]
                refine wpAnyH_take (i := 7) (oi := ⟨some 78, _, _, _, _, _⟩) (v := ?_) rfl (by kernel_rfl) (by kernel_rfl) (by kernel_rfl) (fun _ _ _ h => by cases h.1) (Or.inl ⟨by rfl, by (intro w hSw; (try dsimp only at hSw); go_simp; try with_reducible rfl)⟩) hHeld ?_
                try simp only [Act.put, List.setIfInBounds_toArray, List.set_cons_zero, List.set_cons_succ]
                refine wpAnyH_take (i := 8) (oi := ⟨some 79, _, _, _, _, _⟩) (v := ?_) rfl (by kernel_rfl) (by kernel_rfl) (by kernel_rfl) (fun _ _ _ h => by cases h.1) (Or.inl ⟨by rfl, by (intro w hSw; (try dsimp only at hSw); go_simp; try with_reducible rfl)⟩) hHeld ?_
                try simp only [Act.put, List.setIfInBounds_toArray, List.set_cons_zero, List.set_cons_succ]
                refine wpAnyH_take (i := 9) (oi := ⟨some 80, _, _, _, _, _⟩) (v := ?_) rfl (by kernel_rfl) (by kernel_rfl) (by kernel_rfl) (fun _ _ _ h => by cases h.1) (Or.inl ⟨by rfl, by (intro w hSw; (try dsimp only at hSw); go_simp; try with_reducible rfl)⟩) hHeld ?_
                try simp only [Act.put, List.setIfInBounds_toArray, List.set_cons_zero, List.set_cons_succ]
                refine wpAnyH_take (i := 10) (oi := ⟨some 81, _, _, _, _, _⟩) (v := ?_) rfl (by kernel_rfl) (by kernel_rfl) (by kernel_rfl) (fun _ _ _ h => by cases h.1) (Or.inl ⟨by rfl, by (intro w hSw; (try dsimp only at hSw); go_simp; try with_reducible rfl)⟩) hHeld ?_
                try simp only [Act.put, List.setIfInBounds_toArray, List.set_cons_zero, List.set_cons_succ]
                refine wpAnyH_ready (rs := [13]) (by kernel_rfl) (by simp) ?_
                refine AllReadyH.cons (o := ⟨none, _, _, _, _, _⟩) rfl (fun K hK => ?_) ?_
                · obtain ⟨⟨d0, d1, d2, d3, d4, d5, d6, d7, d8⟩, g0, g1, g2, g3, g4, g5, g6, g7, g8⟩ := nine HAc5.out
                  go_simp
                  have HAc6 := Lib.hid (N9.put HAc5.out (.int .u64 (e2 : Int)) (.int .u64 (v2 : Int)) (.int .u64 (n2 : Int)) (.int .u64 (x2 : Int)) (.string r2) (.bool o2) (.int .u64 (b2 : Int)) (.int .u64 (c2 : Int)) (.int .i64 t2))
                  have HOc6 := Lib.hid ((put_other (w := wc5) (g := gA) (q := gO) (Ne.symm HNE.out) (.int .u64 (e2 : Int)) (.int .u64 (v2 : Int)) (.int .u64 (n2 : Int)) (.int .u64 (x2 : Int)) (.string r2) (.bool o2) (.int .u64 (b2 : Int)) (.int .u64 (c2 : Int)) (.int .i64 t2)).trans HOc5.out)
                  have HBc6 := Lib.hid (set9 (g := gA) HGA.out HBc5.out (.int .u64 (e2 : Int)) (.int .u64 (v2 : Int)) (.int .u64 (n2 : Int)) (.int .u64 (x2 : Int)) (.string r2) (.bool o2) (.int .u64 (b2 : Int)) (.int .u64 (c2 : Int)) (.int .i64 t2))
                  refine hK.out _ _ (mkS.out _ HBc6.out) (fun hHeld2 => ?_)
                  clear hK K hHeld
                  have hHeld := hHeld2
                  clear hHeld2
                  clear HBc5 HSc5 HAc5 HOc5
                  clear d0 d1 d2 d3 d4 d5 d6 d7 d8 g0 g1 g2 g3 g4 g5 g6 g7 g8
                  try simp only [Act.put, List.setIfInBounds_toArray, List.set_cons_zero, List.set_cons_succ]
                  generalize (((((((((wc5.setCell ⟨gA, 0, none⟩ (.int .u64 (e2 : Int))).setCell ⟨gA, 1, none⟩ (.int .u64 (v2 : Int))).setCell ⟨gA, 2, none⟩ (.int .u64 (n2 : Int))).setCell ⟨gA, 3, none⟩ (.int .u64 (x2 : Int))).setCell ⟨gA, 4, none⟩ (.string r2)).setCell ⟨gA, 5, none⟩ (.bool o2)).setCell ⟨gA, 6, none⟩ (.int .u64 (b2 : Int))).setCell ⟨gA, 7, none⟩ (.int .u64 (c2 : Int))).setCell ⟨gA, 8, none⟩ (.int .i64 t2)) = wc6 at *
                  refine wpAnyH_ready (rs := [14]) (by kernel_rfl) (by simp) ?_
                  refine AllReadyH.cons (o := ⟨none, _, _, _, _, _⟩) rfl (fun K hK => ?_) ?_
                  · obtain ⟨⟨m0, m1, m2⟩, l0, l1, l2⟩ := three HOc6.out
                    go_simp
                    have HOc7 := Lib.hid (put3 HOc6.out (.int .u64 (ov : Int)) (.int .u64 (on : Int)) (.string ob))
                    have HAc7 := Lib.hid ((put3_other (w := wc6) (g := gO) (q := gA) HNE.out (.int .u64 (ov : Int)) (.int .u64 (on : Int)) (.string ob)).trans HAc6.out)
                    have HBc7 := Lib.hid (set3 (g := gO) HGO.out HBc6.out (.int .u64 (ov : Int)) (.int .u64 (on : Int)) (.string ob))
                    refine hK.out _ _ (mkS.out _ HBc7.out) (fun hHeld2 => ?_)
                    clear hK K hHeld
                    have hHeld := hHeld2
                    clear hHeld2
                    clear HBc6 HAc6 HOc6 m0 m1 m2 l0 l1 l2
                    try simp only [Act.put, List.setIfInBounds_toArray, List.set_cons_zero, List.set_cons_succ]
                    generalize (((wc6.setCell ⟨gO, 0, none⟩ (.int .u64 (ov : Int))).setCell ⟨gO, 1, none⟩ (.int .u64 (on : Int))).setCell ⟨gO, 2, none⟩ (.string ob)) = wc7 at *
                    refine wpAnyH_take (i := 15) (oi := ⟨some 17, _, _, _, _, _⟩) (v := ?_) rfl (by kernel_rfl) (by kernel_rfl) (by kernel_rfl) (fun _ _ _ h => by cases h.1) (Or.inl ⟨by rfl, by (intro w hSw; (try dsimp only at hSw); go_simp; try with_reducible rfl)⟩) hHeld ?_
                    try simp only [Act.put, List.setIfInBounds_toArray, List.set_cons_zero, List.set_cons_succ]
                    refine wpAnyH_take (i := 16) (oi := ⟨some 18, _, _, _, _, _⟩) (v := ?_) rfl (by kernel_rfl) (by kernel_rfl) (by kernel_rfl) (fun _ _ _ h => by cases h.1) (Or.inl ⟨by rfl, by (intro w hSw; (try dsimp only at hSw); go_simp; try with_reducible rfl)⟩) hHeld ?_
                    try simp only [Act.put, List.setIfInBounds_toArray, List.set_cons_zero, List.set_cons_succ]
                    refine wpAnyH_done (by kernel_rfl) ?_ _
                    exact ⟨rfl, gA, gO, ⟨rfl, HGA.out, HGO.out, HNE.out, HAc7.out, HOc7.out, HBc7.out⟩⟩
                  · exact AllReadyH.nil
                · exact AllReadyH.nil
              · exact AllReadyH.nil
            · exact AllReadyH.nil
        · refine AllReadyH.cons (o := ⟨some 16, _, _, _, _, _⟩) rfl (fun K hK => ?_) ?_
          · go_simp
            have hbn := alloc_below wc2 (.cells #[.int .u64 0, .int .u64 0, .string ⟨#[]⟩] 47)
            have HSc3 := Lib.hid ((hbn.block _ (lt_of_heap HSc2.out)).trans HSc2.out)
            have HOc3 := Lib.hid (heap_alloc_new wc2 (.cells #[.int .u64 0, .int .u64 0, .string ⟨#[]⟩] 47))
            have HBc3 := Lib.hid (HBc2.out.trans (hbn.mono HBc2.out.size))
            have HGO := Lib.hid HBc2.out.size
            refine hK.out _ _ (mkS.out _ HBc3.out) (fun hHeld2 => ?_)
            clear hK K hHeld
            have hHeld := hHeld2
            clear hHeld2
            clear hbn HBc2 HSc2
            try simp only [Act.put, List.setIfInBounds_toArray, List.set_cons_zero, List.set_cons_succ]
            generalize wc2.alloc (.cells #[.int .u64 0, .int .u64 0, .string ⟨#[]⟩] 47) = wc3 at *
            generalize wc2.heap.size = gO at *
            refine wpAnyH_ready (rs := [5, 11]) (by kernel_rfl) (by simp) ?_
            refine AllReadyH.cons (o := ⟨some 77, _, _, _, _, _⟩) rfl (fun K hK => ?_) ?_
            · go_simp
              refine (K14.out _).mono ?_
              rintro ze wc4 ⟨rfl, hbn⟩
              try go_simp
              have HSc4 := Lib.hid ((hbn.block _ (lt_of_heap HSc3.out)).trans HSc3.out)
              have HOc4 := Lib.hid ((hbn.block _ (lt_of_heap HOc3.out)).trans HOc3.out)
              have HBc4 := Lib.hid (HBc3.out.trans (hbn.mono HBc3.out.size))
              refine hK.out _ _ (mkS.out _ HBc4.out) (fun hHeld2 => ?_)
              clear hK K hHeld
              have hHeld := hHeld2
              clear hHeld2
              clear hbn HBc3 HSc3 HOc3
              try simp only [Act.put, List.setIfInBounds_toArray, List.set_cons_zero, List.set_cons_succ]
              refine wpAnyH_take (i := 6) (oi := ⟨some 71, _, _, _, _, _⟩) (v := ?_) rfl (by kernel_rfl) (by kernel_rfl) (by kernel_rfl) (fun _ _ _ h => by cases h.1) (Or.inl ⟨by rfl, by (intro w hSw; (try dsimp only at hSw); go_simp; try with_reducible rfl)⟩) hHeld ?_
              try simp only [Act.put, List.setIfInBounds_toArray, List.set_cons_zero, List.set_cons_succ]
              refine wpAnyH_take (i := 7) (oi := ⟨some 78, _, _, _, _, _⟩) (v := ?_) rfl (by kernel_rfl) (by kernel_rfl) (by kernel_rfl) (fun _ _ _ h => by cases h.1) (Or.inl ⟨by rfl, by (intro w hSw; (try dsimp only at hSw); go_simp; try with_reducible rfl)⟩) hHeld ?_
              try simp only [Act.put, List.setIfInBounds_toArray, List.set_cons_zero, List.set_cons_succ]
              refine wpAnyH_take (i := 8) (oi := ⟨some 79, _, _, _, _, _⟩) (v := ?_) rfl (by kernel_rfl) (by kernel_rfl) (by kernel_rfl) (fun _ _ _ h => by cases h.1) (Or.inl ⟨by rfl, by (intro w hSw; (try dsimp only at hSw); go_simp; try with_reducible rfl)⟩) hHeld ?_
              try simp only [Act.put, List.setIfInBounds_toArray, List.set_cons_zero, List.set_cons_succ]
              refine wpAnyH_take (i := 9) (oi := ⟨some 80, _, _, _, _, _⟩) (v := ?_) rfl (by kernel_rfl) (by kernel_rfl) (by kernel_rfl) (fun _ _ _ h => by cases h.1) (Or.inl ⟨by rfl, by (intro w hSw; (try dsimp only at hSw); go_simp; try with_reducible rfl)⟩) hHeld ?_
              try simp only [Act.put, List.setIfInBounds_toArray, List.set_cons_zero, List.set_cons_succ]
              refine wpAnyH_take (i := 10) (oi := ⟨some 81, _, _, _, _, _⟩) (v := ?_) rfl (by kernel_rfl) (by kernel_rfl) (by kernel_rfl) (fun _ _ _ h => by cases h.1) (Or.inl ⟨by rfl, by (intro w hSw; (try dsimp only at hSw); go_simp; try with_reducible rfl)⟩) hHeld ?_
              try simp only [Act.put, List.setIfInBounds_toArray, List.set_cons_zero, List.set_cons_succ]
              refine wpAnyH_ready (rs := [11]) (by kernel_rfl) (by simp) ?_
              refine AllReadyH.cons (o := ⟨some 15, _, _, _, _, _⟩) rfl (fun K hK => ?_) ?_
              · go_simp
                have hbn := alloc_below wc4 (.cells #[.int .u64 0, .int .u64 0, .int .u64 0, .int .u64 0, .string ⟨#[]⟩, .bool false, .int .u64 0, .int .u64 0, .int .i64 0] 39)
                have HSc5 := Lib.hid ((hbn.block _ (lt_of_heap HSc4.out)).trans HSc4.out)
                have HOc5 := Lib.hid ((hbn.block _ (lt_of_heap HOc4.out)).trans HOc4.out)
                have HAc5 : Hid (N9 (wc4.alloc (.cells #[.int .u64 0, .int .u64 0, .int .u64 0, .int .u64 0, .string ⟨#[]⟩, .bool false, .int .u64 0, .int .u64 0, .int .i64 0] 39)) wc4.heap.size (.int .u64 0) (.int .u64 0) (.int .u64 0) (.int .u64 0) (.string ⟨#[]⟩) (.bool false) (.int .u64 0) (.int .u64 0) (.int .i64 0)) := Lib.hid (heap_alloc_new wc4 _)
                have HBc5 := Lib.hid (HBc4.out.trans (hbn.mono HBc4.out.size))
                have HGA := Lib.hid HBc4.out.size
                have HNE : Hid (wc4.heap.size ≠ gO) := Lib.hid (Ne.symm (Nat.ne_of_lt (lt_of_heap HOc4.out)))
                refine hK.out _ _ (mkS.out _ HBc5.out) (fun hHeld2 => ?_)
                clear hK K hHeld
                have hHeld := hHeld2
                clear hHeld2
                clear hbn HBc4 HSc4 HOc4
                try simp only [Act.put, List.setIfInBounds_toArray, List.set_cons_zero, List.set_cons_succ]
                generalize wc4.alloc (.cells #[.int .u64 0, .int .u64 0, .int .u64 0, .int .u64 0, .string ⟨#[]⟩, .bool false, .int .u64 0, .int .u64 0, .int .i64 0] 39) = wc5 at *
                generalize wc4.heap.size = gA at *
                refine wpAnyH_ready (rs := [13]) (by kernel_rfl) (by simp) ?_
                refine AllReadyH.cons (o := ⟨none, _, _, _, _, _⟩) rfl (fun K hK => ?_) ?_
                · obtain ⟨⟨d0, d1, d2, d3, d4, d5, d6, d7, d8⟩, g0, g1, g2, g3, g4, g5, g6, g7, g8⟩ := nine HAc5.out
                  go_simp
                  have HAc6 := Lib.hid (N9.put HAc5.out (.int .u64 (e2 : Int)) (.int .u64 (v2 : Int)) (.int .u64 (n2 : Int)) (.int .u64 (x2 : Int)) (.string r2) (.bool o2) (.int .u64 (b2 : Int)) (.int .u64 (c2 : Int)) (.int .i64 t2))
                  have HOc6 := Lib.hid ((put_other (w := wc5) (g := gA) (q := gO) (Ne.symm HNE.out) (.int .u64 (e2 : Int)) (.int .u64 (v2 : Int)) (.int .u64 (n2 : Int)) (.int .u64 (x2 : Int)) (.string r2) (.bool o2) (.int .u64 (b2 : Int)) (.int .u64 (c2 : Int)) (.int .i64 t2)).trans HOc5.out)
                  have HBc6 := Lib.hid (set9 (g := gA) HGA.out HBc5.out (.int .u64 (e2 : Int)) (.int .u64 (v2 : Int)) (.int .u64 (n2 : Int)) (.int .u64 (x2 : Int)) (.string r2) (.bool o2) (.int .u64 (b2 : Int)) (.int .u64 (c2 : Int)) (.int .i64 t2))
                  refine hK.out _ _ (mkS.out _ HBc6.out) (fun hHeld2 => ?_)
                  clear hK K hHeld
                  have hHeld := hHeld2
                  clear hHeld2
                  clear HBc5 HSc5 HAc5 HOc5
                  clear d0 d1 d2 d3 d4 d5 d6 d7 d8 g0 g1 g2 g3 g4 g5 g6 g7 g8
                  try simp only [Act.put, List.setIfInBounds_toArray, List.set_cons_zero, List.set_cons_succ]
                  generalize (((((((((wc5.setCell ⟨gA, 0, none⟩ (.int .u64 (e2 : Int))).setCell ⟨gA, 1, none⟩ (.int .u64 (v2 : Int))).setCell ⟨gA, 2, none⟩ (.int .u64 (n2 : Int))).setCell ⟨gA, 3, none⟩ (.int .u64 (x2 : Int))).setCell ⟨gA, 4, none⟩ (.string r2)).setCell ⟨gA, 5, none⟩ (.bool o2)).setCell ⟨gA, 6, none⟩ (.int .u64 (b2 : Int))).setCell ⟨gA, 7, none⟩ (.int .u64 (c2 : Int))).setCell ⟨gA, 8, none⟩ (.int .i64 t2)) = wc6 at *
                  refine wpAnyH_ready (rs := [14]) (by kernel_rfl) (by simp) ?_
                  refine AllReadyH.cons (o := ⟨none, _, _, _, _, _⟩) rfl (fun K hK => ?_) ?_
                  · obtain ⟨⟨m0, m1, m2⟩, l0, l1, l2⟩ := three HOc6.out
                    go_simp
                    have HOc7 := Lib.hid (put3 HOc6.out (.int .u64 (ov : Int)) (.int .u64 (on : Int)) (.string ob))
                    have HAc7 := Lib.hid ((put3_other (w := wc6) (g := gO) (q := gA) HNE.out (.int .u64 (ov : Int)) (.int .u64 (on : Int)) (.string ob)).trans HAc6.out)
                    have HBc7 := Lib.hid (set3 (g := gO) HGO.out HBc6.out (.int .u64 (ov : Int)) (.int .u64 (on : Int)) (.string ob))
                    refine hK.out _ _ (mkS.out _ HBc7.out) (fun hHeld2 => ?_)
                    clear hK K hHeld
                    have hHeld := hHeld2
                    clear hHeld2
                    clear HBc6 HAc6 HOc6 m0 m1 m2 l0 l1 l2
                    try simp only [Act.put, List.setIfInBounds_toArray, List.set_cons_zero, List.set_cons_succ]
                    generalize (((wc6.setCell ⟨gO, 0, none⟩ (.int .u64 (ov : Int))).setCell ⟨gO, 1, none⟩ (.int .u64 (on : Int))).setCell ⟨gO, 2, none⟩ (.string ob)) = wc7 at *
                    refine wpAnyH_take (i := 15) (oi := ⟨some 17, _, _, _, _, _⟩) (v := ?_) rfl (by kernel_rfl) (by kernel_rfl) (by kernel_rfl) (fun _ _ _ h => by cases h.1) (Or.inl ⟨by rfl, by (intro w hSw; (try dsimp only at hSw); go_simp; try with_reducible rfl)⟩) hHeld ?_
                    try simp only [Act.put, List.setIfInBounds_toArray, List.set_cons_zero, List.set_cons_succ]
                    refine wpAnyH_take (i := 16) (oi := ⟨some 18, _, _, _, _, _⟩) (v := ?_) rfl (by kernel_rfl) (by kernel_rfl) (by kernel_rfl) (fun _ _ _ h => by cases h.1) (Or.inl ⟨by rfl, by (intro w hSw; (try dsimp only at hSw); go_simp; try with_reducible rfl)⟩) hHeld ?_
                    try simp only [Act.put, List.setIfInBounds_toArray, List.set_cons_zero, List.set_cons_succ]
                    refine wpAnyH_done (by kernel_rfl) ?_ _
                    exact ⟨rfl, gA, gO, ⟨rfl, HGA.out, HGO.out, HNE.out, HAc7.out, HOc7.out, HBc7.out⟩⟩
                  · exact AllReadyH.nil
                · exact AllReadyH.nil
              · exact AllReadyH.nil
            · refine AllReadyH.cons (o := ⟨some 15, _, _, _, _, _⟩) rfl (fun K hK => ?_) ?_
              · go_simp
                have hbn := alloc_below wc3 (.cells #[.int .u64 0, .int .u64 0, .int .u64 0, .int .u64 0, .string ⟨#[]⟩, .bool false, .int .u64 0, .int .u64 0, .int .i64 0] 39)
                have HSc4 := Lib.hid ((hbn.block _ (lt_of_heap HSc3.out)).trans HSc3.out)
                have HOc4 := Lib.hid ((hbn.block _ (lt_of_heap HOc3.out)).trans HOc3.out)
                have HAc4 : Hid (N9 (wc3.alloc (.cells #[.int .u64 0, .int .u64 0, .int .u64 0, .int .u64 0, .string ⟨#[]⟩, .bool false, .int .u64 0, .int .u64 0, .int .i64 0] 39)) wc3.heap.size (.int .u64 0) (.int .u64 0) (.int .u64 0) (.int .u64 0) (.string ⟨#[]⟩) (.bool false) (.int .u64 0) (.int .u64 0) (.int .i64 0)) := Lib.hid (heap_alloc_new wc3 _)
                have HBc4 := Lib.hid (HBc3.out.trans (hbn.mono HBc3.out.size))
                have HGA := Lib.hid HBc3.out.size
                have HNE : Hid (wc3.heap.size ≠ gO) := Lib.hid (Ne.symm (Nat.ne_of_lt (lt_of_heap HOc3.out)))
                refine hK.out _ _ (mkS.out _ HBc4.out) (fun hHeld2 => ?_)
                clear hK K hHeld
                have hHeld := hHeld2
                clear hHeld2
                clear hbn HBc3 HSc3 HOc3
                try simp only [Act.put, List.setIfInBounds_toArray, List.set_cons_zero, List.set_cons_succ]
                generalize wc3.alloc (.cells #[.int .u64 0, .int .u64 0, .int .u64 0, .int .u64 0, .string ⟨#[]⟩, .bool false, .int .u64 0, .int .u64 0, .int .i64 0] 39) = wc4 at *
                generalize wc3.heap.size = gA at *
                refine wpAnyH_ready (rs := [5]) (by kernel_rfl) (by simp) ?_
                refine AllReadyH.cons (o := ⟨some 77, _, _, _, _, _⟩) rfl (fun K hK => ?_) ?_
                · go_simp
                  refine (K14.out _).mono ?_
                  rintro ze wc5 ⟨rfl, hbn⟩
                  try go_simp
                  have HSc5 := Lib.hid ((hbn.block _ (lt_of_heap HSc4.out)).trans HSc4.out)
                  have HAc5 := Lib.hid (N9.later HAc4.out hbn)
                  have HOc5 := Lib.hid ((hbn.block _ (lt_of_heap HOc4.out)).trans HOc4.out)
                  have HBc5 := Lib.hid (HBc4.out.trans (hbn.mono HBc4.out.size))
                  refine hK.out _ _ (mkS.out _ HBc5.out) (fun hHeld2 => ?_)
                  clear hK K hHeld
                  have hHeld := hHeld2
                  clear hHeld2
                  clear hbn HBc4 HSc4 HAc4 HOc4
                  try simp only [Act.put, List.setIfInBounds_toArray, List.set_cons_zero, List.set_cons_succ]
                  refine wpAnyH_take (i := 6) (oi := ⟨some 71, _, _, _, _, _⟩) (v := ?_) rfl (by kernel_rfl) (by kernel_rfl) (by kernel_rfl) (fun _ _ _ h => by cases h.1) (Or.inl ⟨by rfl, by (intro w hSw; (try dsimp only at hSw); go_simp; try with_reducible rfl)⟩) hHeld ?_
                  try simp only [Act.put, List.setIfInBounds_toArray, List.set_cons_zero, List.set_cons_succ]
                  refine wpAnyH_take (i := 7) (oi := ⟨some 78, _, _, _, _, _⟩) (v := ?_) rfl (by kernel_rfl) (by kernel_rfl) (by kernel_rfl) (fun _ _ _ h => by cases h.1) (Or.inl ⟨by rfl, by (intro w hSw; (try dsimp only at hSw); go_simp; try with_reducible rfl)⟩) hHeld ?_
                  try simp only [Act.put, List.setIfInBounds_toArray, List.set_cons_zero, List.set_cons_succ]
                  refine wpAnyH_take (i := 8) (oi := ⟨some 79, _, _, _, _, _⟩) (v := ?_) rfl (by kernel_rfl) (by kernel_rfl) (by kernel_rfl) (fun _ _ _ h => by cases h.1) (Or.inl ⟨by rfl, by (intro w hSw; (try dsimp only at hSw); go_simp; try with_reducible rfl)⟩) hHeld ?_
                  try simp only [Act.put, List.setIfInBounds_toArray, List.set_cons_zero, List.set_cons_succ]
                  refine wpAnyH_take (i := 9) (oi := ⟨some 80, _, _, _, _, _⟩) (v := ?_) rfl (by kernel_rfl) (by kernel_rfl) (by kernel_rfl) (fun _ _ _ h => by cases h.1) (Or.inl ⟨by rfl, by (intro w hSw; (try dsimp only at hSw); go_simp; try with_reducible rfl)⟩) hHeld ?_
                  try simp only [Act.put, List.setIfInBounds_toArray, List.set_cons_zero, List.set_cons_succ]
                  refine wpAnyH_take (i := 10) (oi := ⟨some 81, _, _, _, _, _⟩) (v := ?_) rfl (by kernel_rfl) (by kernel_rfl) (by kernel_rfl) (fun _ _ _ h => by cases h.1) (Or.inl ⟨by rfl, by (intro w hSw; (try dsimp only at hSw); go_simp; try with_reducible rfl)⟩) hHeld ?_
                  try simp only [Act.put, List.setIfInBounds_toArray, List.set_cons_zero, List.set_cons_succ]
                  refine wpAnyH_ready (rs := [13]) (by kernel_rfl) (by simp) ?_
                  refine AllReadyH.cons (o := ⟨none, _, _, _, _, _⟩) rfl (fun K hK => ?_) ?_
                  · obtain ⟨⟨d0, d1, d2, d3, d4, d5, d6, d7, d8⟩, g0, g1, g2, g3, g4, g5, g6, g7, g8⟩ := nine HAc5.out
                    go_simp
                    have HAc6 := Lib.hid (N9.put HAc5.out (.int .u64 (e2 : Int)) (.int .u64 (v2 : Int)) (.int .u64 (n2 : Int)) (.int .u64 (x2 : Int)) (.string r2) (.bool o2) (.int .u64 (b2 : Int)) (.int .u64 (c2 : Int)) (.int .i64 t2))
                    have HOc6 := Lib.hid ((put_other (w := wc5) (g := gA) (q := gO) (Ne.symm HNE.out) (.int .u64 (e2 : Int)) (.int .u64 (v2 : Int)) (.int .u64 (n2 : Int)) (.int .u64 (x2 : Int)) (.string r2) (.bool o2) (.int .u64 (b2 : Int)) (.int .u64 (c2 : Int)) (.int .i64 t2)).trans HOc5.out)
                    have HBc6 := Lib.hid (set9 (g := gA) HGA.out HBc5.out (.int .u64 (e2 : Int)) (.int .u64 (v2 : Int)) (.int .u64 (n2 : Int)) (.int .u64 (x2 : Int)) (.string r2) (.bool o2) (.int .u64 (b2 : Int)) (.int .u64 (c2 : Int)) (.int .i64 t2))
                    refine hK.out _ _ (mkS.out _ HBc6.out) (fun hHeld2 => ?_)
                    clear hK K hHeld
                    have hHeld := hHeld2
                    clear hHeld2
                    clear HBc5 HSc5 HAc5 HOc5
                    clear d0 d1 d2 d3 d4 d5 d6 d7 d8 g0 g1 g2 g3 g4 g5 g6 g7 g8
                    try simp only [Act.put, List.setIfInBounds_toArray, List.set_cons_zero, List.set_cons_succ]
                    generalize (((((((((wc5.setCell ⟨gA, 0, none⟩ (.int .u64 (e2 : Int))).setCell ⟨gA, 1, none⟩ (.int .u64 (v2 : Int))).setCell ⟨gA, 2, none⟩ (.int .u64 (n2 : Int))).setCell ⟨gA, 3, none⟩ (.int .u64 (x2 : Int))).setCell ⟨gA, 4, none⟩ (.string r2)).setCell ⟨gA, 5, none⟩ (.bool o2)).setCell ⟨gA, 6, none⟩ (.int .u64 (b2 : Int))).setCell ⟨gA, 7, none⟩ (.int .u64 (c2 : Int))).setCell ⟨gA, 8, none⟩ (.int .i64 t2)) = wc6 at *
                    refine wpAnyH_ready (rs := [14]) (by kernel_rfl) (by simp) ?_
                    refine AllReadyH.cons (o := ⟨none, _, _, _, _, _⟩) rfl (fun K hK => ?_) ?_
                    · obtain ⟨⟨m0, m1, m2⟩, l0, l1, l2⟩ := three HOc6.out
                      go_simp
                      have HOc7 := Lib.hid (put3 HOc6.out (.int .u64 (ov : Int)) (.int .u64 (on : Int)) (.string ob))
                      have HAc7 := Lib.hid ((put3_other (w := wc6) (g := gO) (q := gA) HNE.out (.int .u64 (ov : Int)) (.int .u64 (on : Int)) (.string ob)).trans HAc6.out)
                      have HBc7 := Lib.hid (set3 (g := gO) HGO.out HBc6.out (.int .u64 (ov : Int)) (.int .u64 (on : Int)) (.string ob))
                      refine hK.out _ _ (mkS.out _ HBc7.out) (fun hHeld2 => ?_)
                      clear hK K hHeld
                      have hHeld := hHeld2
                      clear hHeld2
                      clear HBc6 HAc6 HOc6 m0 m1 m2 l0 l1 l2
                      try simp only [Act.put, List.setIfInBounds_toArray, List.set_cons_zero, List.set_cons_succ]
                      generalize (((wc6.setCell ⟨gO, 0, none⟩ (.int .u64 (ov : Int))).setCell ⟨gO, 1, none⟩ (.int .u64 (on : Int))).setCell ⟨gO, 2, none⟩ (.string ob)) = wc7 at *
                      refine wpAnyH_take (i := 15) (oi := ⟨some 17, _, _, _, _, _⟩) (v := ?_) rfl (by kernel_rfl) (by kernel_rfl) (by kernel_rfl) (fun _ _ _ h => by cases h.1) (Or.inl ⟨by rfl, by (intro w hSw; (try dsimp only at hSw); go_simp; try with_reducible rfl)⟩) hHeld ?_
                      try simp only [Act.put, List.setIfInBounds_toArray, List.set_cons_zero, List.set_cons_succ]
                      refine wpAnyH_take (i := 16) (oi := ⟨some 18, _, _, _, _, _⟩) (v := ?_) rfl (by kernel_rfl) (by kernel_rfl) (by kernel_rfl) (fun _ _ _ h => by cases h.1) (Or.inl ⟨by rfl, by (intro w hSw; (try dsimp only at hSw); go_simp; try with_reducible rfl)⟩) hHeld ?_
                      try simp only [Act.put, List.setIfInBounds_toArray, List.set_cons_zero, List.set_cons_succ]
                      refine wpAnyH_done (by kernel_rfl) ?_ _
                      exact ⟨rfl, gA, gO, ⟨rfl, HGA.out, HGO.out, HNE.out, HAc7.out, HOc7.out, HBc7.out⟩⟩
                    · exact AllReadyH.nil
                  · exact AllReadyH.nil
                · exact AllReadyH.nil
              · exact AllReadyH.nil
          · exact AllReadyH.nil
    · refine AllReadyH.cons (o := ⟨some 15, _, _, _, _, _⟩) rfl (fun K hK => ?_) ?_
      · go_simp
        have hbn := alloc_below wc1 (.cells #[.int .u64 0, .int .u64 0, .int .u64 0, .int .u64 0, .string ⟨#[]⟩, .bool false, .int .u64 0, .int .u64 0, .int .i64 0] 39)
        have HSc2 := Lib.hid ((hbn.block _ (lt_of_heap HSc1.out)).trans HSc1.out)
        have HAc2 : Hid (N9 (wc1.alloc (.cells #[.int .u64 0, .int .u64 0, .int .u64 0, .int .u64 0, .string ⟨#[]⟩, .bool false, .int .u64 0, .int .u64 0, .int .i64 0] 39)) wc1.heap.size (.int .u64 0) (.int .u64 0) (.int .u64 0) (.int .u64 0) (.string ⟨#[]⟩) (.bool false) (.int .u64 0) (.int .u64 0) (.int .i64 0)) := Lib.hid (heap_alloc_new wc1 _)
        have HBc2 := Lib.hid (HBc1.out.trans (hbn.mono HBc1.out.size))
        have HGA := Lib.hid HBc1.out.size
        refine hK.out _ _ (mkS.out _ HBc2.out) (fun hHeld2 => ?_)
        clear hK K hHeld
        have hHeld := hHeld2
        clear hHeld2
        clear hbn HBc1 HSc1
        try simp only [Act.put, List.setIfInBounds_toArray, List.set_cons_zero, List.set_cons_succ]
        generalize wc1.alloc (.cells #[.int .u64 0, .int .u64 0, .int .u64 0, .int .u64 0, .string ⟨#[]⟩, .bool false, .int .u64 0, .int .u64 0, .int .i64 0] 39) = wc2 at *
        generalize wc1.heap.size = gA at *
        refine wpAnyH_ready (rs := [4, 12]) (by kernel_rfl) (by simp) ?_
        refine AllReadyH.cons (o := ⟨some 76, _, _, _, _, _⟩) rfl (fun K hK => ?_) ?_
        · go_simp
          refine (K7.out _ gS HSc2.out).mono ?_
          rintro ze wc3 ⟨rfl, hbn⟩
          try go_simp
          have HSc3 := Lib.hid ((hbn.block _ (lt_of_heap HSc2.out)).trans HSc2.out)
          have HAc3 := Lib.hid (N9.later HAc2.out hbn)
          have HBc3 := Lib.hid (HBc2.out.trans (hbn.mono HBc2.out.size))
          refine hK.out _ _ (mkS.out _ HBc3.out) (fun hHeld2 => ?_)
          clear hK K hHeld
          have hHeld := hHeld2
          clear hHeld2
          clear hbn HBc2 HSc2 HAc2
          try simp only [Act.put, List.setIfInBounds_toArray, List.set_cons_zero, List.set_cons_succ]
          refine wpAnyH_ready (rs := [5, 12]) (by kernel_rfl) (by simp) ?_
          refine AllReadyH.cons (o := ⟨some 77, _, _, _, _, _⟩) rfl (fun K hK => ?_) ?_
          · go_simp
            refine (K14.out _).mono ?_
            rintro ze wc4 ⟨rfl, hbn⟩
            try go_simp
            have HSc4 := Lib.hid ((hbn.block _ (lt_of_heap HSc3.out)).trans HSc3.out)
            have HAc4 := Lib.hid (N9.later HAc3.out hbn)
            have HBc4 := Lib.hid (HBc3.out.trans (hbn.mono HBc3.out.size))
            refine hK.out _ _ (mkS.out _ HBc4.out) (fun hHeld2 => ?_)
            clear hK K hHeld
            have hHeld := hHeld2
            clear hHeld2
            clear hbn HBc3 HSc3 HAc3
            try simp only [Act.put, List.setIfInBounds_toArray, List.set_cons_zero, List.set_cons_succ]
            refine wpAnyH_take (i := 6) (oi := ⟨some 71, _, _, _, _, _⟩) (v := ?_) rfl (by kernel_rfl) (by kernel_rfl) (by kernel_rfl) (fun _ _ _ h => by cases h.1) (Or.inl ⟨by rfl, by (intro w hSw; (try dsimp only at hSw); go_simp; try with_reducible rfl)⟩) hHeld ?_
            try simp only [Act.put, List.setIfInBounds_toArray, List.set_cons_zero, List.set_cons_succ]
            refine wpAnyH_take (i := 7) (oi := ⟨some 78, _, _, _, _, _⟩) (v := ?_) rfl (by kernel_rfl) (by kernel_rfl) (by kernel_rfl) (fun _ _ _ h => by cases h.1) (Or.inl ⟨by rfl, by (intro w hSw; (try dsimp only at hSw); go_simp; try with_reducible rfl)⟩) hHeld ?_
            try simp only [Act.put, List.setIfInBounds_toArray, List.set_cons_zero, List.set_cons_succ]
            refine wpAnyH_take (i := 8) (oi := ⟨some 79, _, _, _, _, _⟩) (v := ?_) rfl (by kernel_rfl) (by kernel_rfl) (by kernel_rfl) (fun _ _ _ h => by cases h.1) (Or.inl ⟨by rfl, by (intro w hSw; (try dsimp only at hSw); go_simp; try with_reducible rfl)⟩) hHeld ?_
            try simp only [Act.put, List.setIfInBounds_toArray, List.set_cons_zero, List.set_cons_succ]
            refine wpAnyH_take (i := 9) (oi := ⟨some 80, _, _, _, _, _⟩) (v := ?_) rfl (by kernel_rfl) (by kernel_rfl) (by kernel_rfl) (fun _ _ _ h => by cases h.1) (Or.inl ⟨by rfl, by (intro w hSw; (try dsimp only at hSw); go_simp; try with_reducible rfl)⟩) hHeld ?_
            try simp only [Act.put, List.setIfInBounds_toArray, List.set_cons_zero, List.set_cons_succ]
            refine wpAnyH_take (i := 10) (oi := ⟨some 81, _, _, _, _, _⟩) (v := ?_) rfl (by kernel_rfl) (by kernel_rfl) (by kernel_rfl) (fun _ _ _ h => by cases h.1) (Or.inl ⟨by rfl, by (intro w hSw; (try dsimp only at hSw); go_simp; try with_reducible rfl)⟩) hHeld ?_
            try simp only [Act.put, List.setIfInBounds_toArray, List.set_cons_zero, List.set_cons_succ]
            refine wpAnyH_ready (rs := [12]) (by kernel_rfl) (by simp) ?_
            refine AllReadyH.cons (o := ⟨some 16, _, _, _, _, _⟩) rfl (fun K hK => ?_) ?_
            · go_simp
              have hbn := alloc_below wc4 (.cells #[.int .u64 0, .int .u64 0, .string ⟨#[]⟩] 47)
              have HSc5 := Lib.hid ((hbn.block _ (lt_of_heap HSc4.out)).trans HSc4.out)
              have HAc5 := Lib.hid (N9.later HAc4.out hbn)
              have HOc5 := Lib.hid (heap_alloc_new wc4 (.cells #[.int .u64 0, .int .u64 0, .string ⟨#[]⟩] 47))
              have HBc5 := Lib.hid (HBc4.out.trans (hbn.mono HBc4.out.size))
              have HGO := Lib.hid HBc4.out.size
              have HNE : Hid (gA ≠ wc4.heap.size) := Lib.hid (Nat.ne_of_lt (lt_of_heap HAc4.out))
              refine hK.out _ _ (mkS.out _ HBc5.out) (fun hHeld2 => ?_)
              clear hK K hHeld
              have hHeld := hHeld2
              clear hHeld2
              clear hbn HBc4 HSc4 HAc4
              try simp only [Act.put, List.setIfInBounds_toArray, List.set_cons_zero, List.set_cons_succ]
              generalize wc4.alloc (.cells #[.int .u64 0, .int .u64 0, .string ⟨#[]⟩] 47) = wc5 at *
              generalize wc4.heap.size = gO at *
              refine wpAnyH_ready (rs := [13]) (by kernel_rfl) (by simp) ?_
              refine AllReadyH.cons (o := ⟨none, _, _, _, _, _⟩) rfl (fun K hK => ?_) ?_
              · obtain ⟨⟨d0, d1, d2, d3, d4, d5, d6, d7, d8⟩, g0, g1, g2, g3, g4, g5, g6, g7, g8⟩ := nine HAc5.out
                go_simp
                have HAc6 := Lib.hid (N9.put HAc5.out (.int .u64 (e2 : Int)) (.int .u64 (v2 : Int)) (.int .u64 (n2 : Int)) (.int .u64 (x2 : Int)) (.string r2) (.bool o2) (.int .u64 (b2 : Int)) (.int .u64 (c2 : Int)) (.int .i64 t2))
                have HOc6 := Lib.hid ((put_other (w := wc5) (g := gA) (q := gO) (Ne.symm HNE.out) (.int .u64 (e2 : Int)) (.int .u64 (v2 : Int)) (.int .u64 (n2 : Int)) (.int .u64 (x2 : Int)) (.string r2) (.bool o2) (.int .u64 (b2 : Int)) (.int .u64 (c2 : Int)) (.int .i64 t2)).trans HOc5.out)
                have HBc6 := Lib.hid (set9 (g := gA) HGA.out HBc5.out (.int .u64 (e2 : Int)) (.int .u64 (v2 : Int)) (.int .u64 (n2 : Int)) (.int .u64 (x2 : Int)) (.string r2) (.bool o2) (.int .u64 (b2 : Int)) (.int .u64 (c2 : Int)) (.int .i64 t2))
                refine hK.out _ _ (mkS.out _ HBc6.out) (fun hHeld2 => ?_)
                clear hK K hHeld
                have hHeld := hHeld2
                clear hHeld2
                clear HBc5 HSc5 HAc5 HOc5
                clear d0 d1 d2 d3 d4 d5 d6 d7 d8 g0 g1 g2 g3 g4 g5 g6 g7 g8
                try simp only [Act.put, List.setIfInBounds_toArray, List.set_cons_zero, List.set_cons_succ]
                generalize (((((((((wc5.setCell ⟨gA, 0, none⟩ (.int .u64 (e2 : Int))).setCell ⟨gA, 1, none⟩ (.int .u64 (v2 : Int))).setCell ⟨gA, 2, none⟩ (.int .u64 (n2 : Int))).setCell ⟨gA, 3, none⟩ (.int .u64 (x2 : Int))).setCell ⟨gA, 4, none⟩ (.string r2)).setCell ⟨gA, 5, none⟩ (.bool o2)).setCell ⟨gA, 6, none⟩ (.int .u64 (b2 : Int))).setCell ⟨gA, 7, none⟩ (.int .u64 (c2 : Int))).setCell ⟨gA, 8, none⟩ (.int .i64 t2)) = wc6 at *
                refine wpAnyH_ready (rs := [14]) (by kernel_rfl) (by simp) ?_
                refine AllReadyH.cons (o := ⟨none, _, _, _, _, _⟩) rfl (fun K hK => ?_) ?_
                · obtain ⟨⟨m0, m1, m2⟩, l0, l1, l2⟩ := three HOc6.out
                  go_simp
                  have HOc7 := Lib.hid (put3 HOc6.out (.int .u64 (ov : Int)) (.int .u64 (on : Int)) (.string ob))
                  have HAc7 := Lib.hid ((put3_other (w := wc6) (g := gO) (q := gA) HNE.out (.int .u64 (ov : Int)) (.int .u64 (on : Int)) (.string ob)).trans HAc6.out)
                  have HBc7 := Lib.hid (set3 (g := gO) HGO.out HBc6.out (.int .u64 (ov : Int)) (.int .u64 (on : Int)) (.string ob))
                  refine hK.out _ _ (mkS.out _ HBc7.out) (fun hHeld2 => ?_)
                  clear hK K hHeld
                  have hHeld := hHeld2
                  clear hHeld2
                  clear HBc6 HAc6 HOc6 m0 m1 m2 l0 l1 l2
                  try simp only [Act.put, List.setIfInBounds_toArray, List.set_cons_zero, List.set_cons_succ]
                  generalize (((wc6.setCell ⟨gO, 0, none⟩ (.int .u64 (ov : Int))).setCell ⟨gO, 1, none⟩ (.int .u64 (on : Int))).setCell ⟨gO, 2, none⟩ (.string ob)) = wc7 at *
                  refine wpAnyH_take (i := 15) (oi := ⟨some 17, _, _, _, _, _⟩) (v := ?_) rfl (by kernel_rfl) (by kernel_rfl) (by kernel_rfl) (fun _ _ _ h => by cases h.1) (Or.inl ⟨by rfl, by (intro w hSw; (try dsimp only at hSw); go_simp; try with_reducible rfl)⟩) hHeld ?_
                  try simp only [Act.put, List.setIfInBounds_toArray, List.set_cons_zero, List.set_cons_succ]
                  refine wpAnyH_take (i := 16) (oi := ⟨some 18, _, _, _, _, _⟩) (v := ?_) rfl (by kernel_rfl) (by kernel_rfl) (by kernel_rfl) (fun _ _ _ h => by cases h.1) (Or.inl ⟨by rfl, by (intro w hSw; (try dsimp only at hSw); go_simp; try with_reducible rfl)⟩) hHeld ?_
                  try simp only [Act.put, List.setIfInBounds_toArray, List.set_cons_zero, List.set_cons_succ]
                  refine wpAnyH_done (by kernel_rfl) ?_ _
                  exact ⟨rfl, gA, gO, ⟨rfl, HGA.out, HGO.out, HNE.out, HAc7.out, HOc7.out, HBc7.out⟩⟩
                · exact AllReadyH.nil
              · exact AllReadyH.nil
            · exact AllReadyH.nil
          · refine AllReadyH.cons (o := ⟨some 16, _, _, _, _, _⟩) rfl (fun K hK => ?_) ?_
            · go_simp
              have hbn := alloc_below wc3 (.cells #[.int .u64 0, .int .u64 0, .string ⟨#[]⟩] 47)
              have HSc4 := Lib.hid ((hbn.block _ (lt_of_heap HSc3.out)).trans HSc3.out)
              have HAc4 := Lib.hid (N9.later HAc3.out hbn)
              have HOc4 := Lib.hid (heap_alloc_new wc3 (.cells #[.int .u64 0, .int .u64 0, .string ⟨#[]⟩] 47))
              have HBc4 := Lib.hid (HBc3.out.trans (hbn.mono HBc3.out.size))
              have HGO := Lib.hid HBc3.out.size
              have HNE : Hid (gA ≠ wc3.heap.size) := Lib.hid (Nat.ne_of_lt (lt_of_heap HAc3.out))
              refine hK.out _ _ (mkS.out _ HBc4.out) (fun hHeld2 => ?_)
              clear hK K hHeld
              have hHeld := hHeld2
              clear hHeld2
              clear hbn HBc3 HSc3 HAc3
              try simp only [Act.put, List.setIfInBounds_toArray, List.set_cons_zero, List.set_cons_succ]
              generalize wc3.alloc (.cells #[.int .u64 0, .int .u64 0, .string ⟨#[]⟩] 47) = wc4 at *
              generalize wc3.heap.size = gO at *
              refine wpAnyH_ready (rs := [5]) (by kernel_rfl) (by simp) ?_
              refine AllReadyH.cons (o := ⟨some 77, _, _, _, _, _⟩) rfl (fun K hK => ?_) ?_
              · go_simp
                refine (K14.out _).mono ?_
                rintro ze wc5 ⟨rfl, hbn⟩
                try go_simp
                have HSc5 := Lib.hid ((hbn.block _ (lt_of_heap HSc4.out)).trans HSc4.out)
                have HAc5 := Lib.hid (N9.later HAc4.out hbn)
                have HOc5 := Lib.hid ((hbn.block _ (lt_of_heap HOc4.out)).trans HOc4.out)
                have HBc5 := Lib.hid (HBc4.out.trans (hbn.mono HBc4.out.size))
                refine hK.out _ _ (mkS.out _ HBc5.out) (fun hHeld2 => ?_)
                clear hK K hHeld
                have hHeld := hHeld2
                clear hHeld2
                clear hbn HBc4 HSc4 HAc4 HOc4
                try simp only [Act.put, List.setIfInBounds_toArray, List.set_cons_zero, List.set_cons_succ]
                refine wpAnyH_take (i := 6) (oi := ⟨some 71, _, _, _, _, _⟩) (v := ?_) rfl (by kernel_rfl) (by kernel_rfl) (by kernel_rfl) (fun _ _ _ h => by cases h.1) (Or.inl ⟨by rfl, by (intro w hSw; (try dsimp only at hSw); go_simp; try with_reducible rfl)⟩) hHeld ?_
                try simp only [Act.put, List.setIfInBounds_toArray, List.set_cons_zero, List.set_cons_succ]
                refine wpAnyH_take (i := 7) (oi := ⟨some 78, _, _, _, _, _⟩) (v := ?_) rfl (by kernel_rfl) (by kernel_rfl) (by kernel_rfl) (fun _ _ _ h => by cases h.1) (Or.inl ⟨by rfl, by (intro w hSw; (try dsimp only at hSw); go_simp; try with_reducible rfl)⟩) hHeld ?_
                try simp only [Act.put, List.setIfInBounds_toArray, List.set_cons_zero, List.set_cons_succ]
                refine wpAnyH_take (i := 8) (oi := ⟨some 79, _, _, _, _, _⟩) (v := ?_) rfl (by kernel_rfl) (by kernel_rfl) (by kernel_rfl) (fun _ _ _ h => by cases h.1) (Or.inl ⟨by rfl, by (intro w hSw; (try dsimp only at hSw); go_simp; try with_reducible rfl)⟩) hHeld ?_
                try simp only [Act.put, List.setIfInBounds_toArray, List.set_cons_zero, List.set_cons_succ]
                refine wpAnyH_take (i := 9) (oi := ⟨some 80, _, _, _, _, _⟩) (v := ?_) rfl (by kernel_rfl) (by kernel_rfl) (by kernel_rfl) (fun _ _ _ h => by cases h.1) (Or.inl ⟨by rfl, by (intro w hSw; (try dsimp only at hSw); go_simp; try with_reducible rfl)⟩) hHeld ?_
                try simp only [Act.put, List.setIfInBounds_toArray, List.set_cons_zero, List.set_cons_succ]
                refine wpAnyH_take (i := 10) (oi := ⟨some 81, _, _, _, _, _⟩) (v := ?_) rfl (by kernel_rfl) (by kernel_rfl) (by kernel_rfl) (fun _ _ _ h => by cases h.1) (Or.inl ⟨by rfl, by (intro w hSw; (try dsimp only at hSw); go_simp; try with_reducible rfl)⟩) hHeld ?_
                try simp only [Act.put, List.setIfInBounds_toArray, List.set_cons_zero, List.set_cons_succ]
                refine wpAnyH_ready (rs := [13]) (by kernel_rfl) (by simp) ?_
                refine AllReadyH.cons (o := ⟨none, _, _, _, _, _⟩) rfl (fun K hK => ?_) ?_
                · obtain ⟨⟨d0, d1, d2, d3, d4, d5, d6, d7, d8⟩, g0, g1, g2, g3, g4, g5, g6, g7, g8⟩ := nine HAc5.out
                  go_simp
                  have HAc6 := Lib.hid (N9.put HAc5.out (.int .u64 (e2 : Int)) (.int .u64 (v2 : Int)) (.int .u64 (n2 : Int)) (.int .u64 (x2 : Int)) (.string r2) (.bool o2) (.int .u64 (b2 : Int)) (.int .u64 (c2 : Int)) (.int .i64 t2))
                  have HOc6 := Lib.hid ((put_other (w := wc5) (g := gA) (q := gO) (Ne.symm HNE.out) (.int .u64 (e2 : Int)) (.int .u64 (v2 : Int)) (.int .u64 (n2 : Int)) (.int .u64 (x2 : Int)) (.string r2) (.bool o2) (.int .u64 (b2 : Int)) (.int .u64 (c2 : Int)) (.int .i64 t2)).trans HOc5.out)
                  have HBc6 := Lib.hid (set9 (g := gA) HGA.out HBc5.out (.int .u64 (e2 : Int)) (.int .u64 (v2 : Int)) (.int .u64 (n2 : Int)) (.int .u64 (x2 : Int)) (.string r2) (.bool o2) (.int .u64 (b2 : Int)) (.int .u64 (c2 : Int)) (.int .i64 t2))
                  refine hK.out _ _ (mkS.out _ HBc6.out) (fun hHeld2 => ?_)
                  clear hK K hHeld
                  have hHeld := hHeld2
                  clear hHeld2
                  clear HBc5 HSc5 HAc5 HOc5
                  clear d0 d1 d2 d3 d4 d5 d6 d7 d8 g0 g1 g2 g3 g4 g5 g6 g7 g8
                  try simp only [Act.put, List.setIfInBounds_toArray, List.set_cons_zero, List.set_cons_succ]
                  generalize (((((((((wc5.setCell ⟨gA, 0, none⟩ (.int .u64 (e2 : Int))).setCell ⟨gA, 1, none⟩ (.int .u64 (v2 : Int))).setCell ⟨gA, 2, none⟩ (.int .u64 (n2 : Int))).setCell ⟨gA, 3, none⟩ (.int .u64 (x2 : Int))).setCell ⟨gA, 4, none⟩ (.string r2)).setCell ⟨gA, 5, none⟩ (.bool o2)).setCell ⟨gA, 6, none⟩ (.int .u64 (b2 : Int))).setCell ⟨gA, 7, none⟩ (.int .u64 (c2 : Int))).setCell ⟨gA, 8, none⟩ (.int .i64 t2)) = wc6 at *
                  refine wpAnyH_ready (rs := [14]) (by kernel_rfl) (by simp) ?_
                  refine AllReadyH.cons (o := ⟨none, _, _, _, _, _⟩) rfl (fun K hK => ?_) ?_
                  · obtain ⟨⟨m0, m1, m2⟩, l0, l1, l2⟩ := three HOc6.out
                    go_simp
                    have HOc7 := Lib.hid (put3 HOc6.out (.int .u64 (ov : Int)) (.int .u64 (on : Int)) (.string ob))
                    have HAc7 := Lib.hid ((put3_other (w := wc6) (g := gO) (q := gA) HNE.out (.int .u64 (ov : Int)) (.int .u64 (on : Int)) (.string ob)).trans HAc6.out)
                    have HBc7 := Lib.hid (set3 (g := gO) HGO.out HBc6.out (.int .u64 (ov : Int)) (.int .u64 (on : Int)) (.string ob))
                    refine hK.out _ _ (mkS.out _ HBc7.out) (fun hHeld2 => ?_)
                    clear hK K hHeld
                    have hHeld := hHeld2
                    clear hHeld2
                    clear HBc6 HAc6 HOc6 m0 m1 m2 l0 l1 l2
                    try simp only [Act.put, List.setIfInBounds_toArray, List.set_cons_zero, List.set_cons_succ]
                    generalize (((wc6.setCell ⟨gO, 0, none⟩ (.int .u64 (ov : Int))).setCell ⟨gO, 1, none⟩ (.int .u64 (on : Int))).setCell ⟨gO, 2, none⟩ (.string ob)) = wc7 at *
                    refine wpAnyH_take (i := 15) (oi := ⟨some 17, _, _, _, _, _⟩) (v := ?_) rfl (by kernel_rfl) (by kernel_rfl) (by kernel_rfl) (fun _ _ _ h => by cases h.1) (Or.inl ⟨by rfl, by (intro w hSw; (try dsimp only at hSw); go_simp; try with_reducible rfl)⟩) hHeld ?_
                    try simp only [Act.put, List.setIfInBounds_toArray, List.set_cons_zero, List.set_cons_succ]
                    refine wpAnyH_take (i := 16) (oi := ⟨some 18, _, _, _, _, _⟩) (v := ?_) rfl (by kernel_rfl) (by kernel_rfl) (by kernel_rfl) (fun _ _ _ h => by cases h.1) (Or.inl ⟨by rfl, by (intro w hSw; (try dsimp only at hSw); go_simp; try with_reducible rfl)⟩) hHeld ?_
                    try simp only [Act.put, List.setIfInBounds_toArray, List.set_cons_zero, List.set_cons_succ]
                    refine wpAnyH_done (by kernel_rfl) ?_ _
                    exact ⟨rfl, gA, gO, ⟨rfl, HGA.out, HGO.out, HNE.out, HAc7.out, HOc7.out, HBc7.out⟩⟩
                  · exact AllReadyH.nil
                · exact AllReadyH.nil
              · exact AllReadyH.nil
            · exact AllReadyH.nil
        · refine AllReadyH.cons (o := ⟨some 16, _, _, _, _, _⟩) rfl (fun K hK => ?_) ?_
          · go_simp
            have hbn := alloc_below wc2 (.cells #[.int .u64 0, .int .u64 0, .string ⟨#[]⟩] 47)
            have HSc3 := Lib.hid ((hbn.block _ (lt_of_heap HSc2.out)).trans HSc2.out)
            have HAc3 := Lib.hid (N9.later HAc2.out hbn)
            have HOc3 := Lib.hid (heap_alloc_new wc2 (.cells #[.int .u64 0, .int .u64 0, .string ⟨#[]⟩] 47))
            have HBc3 := Lib.hid (HBc2.out.trans (hbn.mono HBc2.out.size))
            have HGO := Lib.hid HBc2.out.size
            have HNE : Hid (gA ≠ wc2.heap.size) := Lib.hid (Nat.ne_of_lt (lt_of_heap HAc2.out))
            refine hK.out _ _ (mkS.out _ HBc3.out) (fun hHeld2 => ?_)
            clear hK K hHeld
            have hHeld := hHeld2
            clear hHeld2
            clear hbn HBc2 HSc2 HAc2
            try simp only [Act.put, List.setIfInBounds_toArray, List.set_cons_zero, List.set_cons_succ]
            generalize wc2.alloc (.cells #[.int .u64 0, .int .u64 0, .string ⟨#[]⟩] 47) = wc3 at *
            generalize wc2.heap.size = gO at *
            refine wpAnyH_ready (rs := [4]) (by kernel_rfl) (by simp) ?_
            refine AllReadyH.cons (o := ⟨some 76, _, _, _, _, _⟩) rfl (fun K hK => ?_) ?_
            · go_simp
              refine (K7.out _ gS HSc3.out).mono ?_
              rintro ze wc4 ⟨rfl, hbn⟩
              try go_simp
              have HSc4 := Lib.hid ((hbn.block _ (lt_of_heap HSc3.out)).trans HSc3.out)
              have HAc4 := Lib.hid (N9.later HAc3.out hbn)
              have HOc4 := Lib.hid ((hbn.block _ (lt_of_heap HOc3.out)).trans HOc3.out)
              have HBc4 := Lib.hid (HBc3.out.trans (hbn.mono HBc3.out.size))
              refine hK.out _ _ (mkS.out _ HBc4.out) (fun hHeld2 => ?_)
              clear hK K hHeld
              have hHeld := hHeld2
              clear hHeld2
              clear hbn HBc3 HSc3 HAc3 HOc3
              try simp only [Act.put, List.setIfInBounds_toArray, List.set_cons_zero, List.set_cons_succ]
              refine wpAnyH_ready (rs := [5]) (by kernel_rfl) (by simp) ?_
              refine AllReadyH.cons (o := ⟨some 77, _, _, _, _, _⟩) rfl (fun K hK => ?_) ?_
              · go_simp
                refine (K14.out _).mono ?_
                rintro ze wc5 ⟨rfl, hbn⟩
                try go_simp
                have HSc5 := Lib.hid ((hbn.block _ (lt_of_heap HSc4.out)).trans HSc4.out)
                have HAc5 := Lib.hid (N9.later HAc4.out hbn)
                have HOc5 := Lib.hid ((hbn.block _ (lt_of_heap HOc4.out)).trans HOc4.out)
                have HBc5 := Lib.hid (HBc4.out.trans (hbn.mono HBc4.out.size))
                refine hK.out _ _ (mkS.out _ HBc5.out) (fun hHeld2 => ?_)
                clear hK K hHeld
                have hHeld := hHeld2
                clear hHeld2
                clear hbn HBc4 HSc4 HAc4 HOc4
                try simp only [Act.put, List.setIfInBounds_toArray, List.set_cons_zero, List.set_cons_succ]
                refine wpAnyH_take (i := 6) (oi := ⟨some 71, _, _, _, _, _⟩) (v := ?_) rfl (by kernel_rfl) (by kernel_rfl) (by kernel_rfl) (fun _ _ _ h => by cases h.1) (Or.inl ⟨by rfl, by (intro w hSw; (try dsimp only at hSw); go_simp; try with_reducible rfl)⟩) hHeld ?_
                try simp only [Act.put, List.setIfInBounds_toArray, List.set_cons_zero, List.set_cons_succ]
                refine wpAnyH_take (i := 7) (oi := ⟨some 78, _, _, _, _, _⟩) (v := ?_) rfl (by kernel_rfl) (by kernel_rfl) (by kernel_rfl) (fun _ _ _ h => by cases h.1) (Or.inl ⟨by rfl, by (intro w hSw; (try dsimp only at hSw); go_simp; try with_reducible rfl)⟩) hHeld ?_
                try simp only [Act.put, List.setIfInBounds_toArray, List.set_cons_zero, List.set_cons_succ]
                refine wpAnyH_take (i := 8) (oi := ⟨some 79, _, _, _, _, _⟩) (v := ?_) rfl (by kernel_rfl) (by kernel_rfl) (by kernel_rfl) (fun _ _ _ h => by cases h.1) (Or.inl ⟨by rfl, by (intro w hSw; (try dsimp only at hSw); go_simp; try with_reducible rfl)⟩) hHeld ?_
                try simp only [Act.put, List.setIfInBounds_toArray, List.set_cons_zero, List.set_cons_succ]
                refine wpAnyH_take (i := 9) (oi := ⟨some 80, _, _, _, _, _⟩) (v := ?_) rfl (by kernel_rfl) (by kernel_rfl) (by kernel_rfl) (fun _ _ _ h => by cases h.1) (Or.inl ⟨by rfl, by (intro w hSw; (try dsimp only at hSw); go_simp; try with_reducible rfl)⟩) hHeld ?_
                try simp only [Act.put, List.setIfInBounds_toArray, List.set_cons_zero, List.set_cons_succ]
                refine wpAnyH_take (i := 10) (oi := ⟨some 81, _, _, _, _, _⟩) (v := ?_) rfl (by kernel_rfl) (by kernel_rfl) (by kernel_rfl) (fun _ _ _ h => by cases h.1) (Or.inl ⟨by rfl, by (intro w hSw; (try dsimp only at hSw); go_simp; try with_reducible rfl)⟩) hHeld ?_
                try simp only [Act.put, List.setIfInBounds_toArray, List.set_cons_zero, List.set_cons_succ]
                refine wpAnyH_ready (rs := [13]) (by kernel_rfl) (by simp) ?_
                refine AllReadyH.cons (o := ⟨none, _, _, _, _, _⟩) rfl (fun K hK => ?_) ?_
                · obtain ⟨⟨d0, d1, d2, d3, d4, d5, d6, d7, d8⟩, g0, g1, g2, g3, g4, g5, g6, g7, g8⟩ := nine HAc5.out
                  go_simp
                  have HAc6 := Lib.hid (N9.put HAc5.out (.int .u64 (e2 : Int)) (.int .u64 (v2 : Int)) (.int .u64 (n2 : Int)) (.int .u64 (x2 : Int)) (.string r2) (.bool o2) (.int .u64 (b2 : Int)) (.int .u64 (c2 : Int)) (.int .i64 t2))
                  have HOc6 := Lib.hid ((put_other (w := wc5) (g := gA) (q := gO) (Ne.symm HNE.out) (.int .u64 (e2 : Int)) (.int .u64 (v2 : Int)) (.int .u64 (n2 : Int)) (.int .u64 (x2 : Int)) (.string r2) (.bool o2) (.int .u64 (b2 : Int)) (.int .u64 (c2 : Int)) (.int .i64 t2)).trans HOc5.out)
                  have HBc6 := Lib.hid (set9 (g := gA) HGA.out HBc5.out (.int .u64 (e2 : Int)) (.int .u64 (v2 : Int)) (.int .u64 (n2 : Int)) (.int .u64 (x2 : Int)) (.string r2) (.bool o2) (.int .u64 (b2 : Int)) (.int .u64 (c2 : Int)) (.int .i64 t2))
                  refine hK.out _ _ (mkS.out _ HBc6.out) (fun hHeld2 => ?_)
                  clear hK K hHeld
                  have hHeld := hHeld2
                  clear hHeld2
                  clear HBc5 HSc5 HAc5 HOc5
                  clear d0 d1 d2 d3 d4 d5 d6 d7 d8 g0 g1 g2 g3 g4 g5 g6 g7 g8
                  try simp only [Act.put, List.setIfInBounds_toArray, List.set_cons_zero, List.set_cons_succ]
                  generalize (((((((((wc5.setCell ⟨gA, 0, none⟩ (.int .u64 (e2 : Int))).setCell ⟨gA, 1, none⟩ (.int .u64 (v2 : Int))).setCell ⟨gA, 2, none⟩ (.int .u64 (n2 : Int))).setCell ⟨gA, 3, none⟩ (.int .u64 (x2 : Int))).setCell ⟨gA, 4, none⟩ (.string r2)).setCell ⟨gA, 5, none⟩ (.bool o2)).setCell ⟨gA, 6, none⟩ (.int .u64 (b2 : Int))).setCell ⟨gA, 7, none⟩ (.int .u64 (c2 : Int))).setCell ⟨gA, 8, none⟩ (.int .i64 t2)) = wc6 at *
                  refine wpAnyH_ready (rs := [14]) (by kernel_rfl) (by simp) ?_
                  refine AllReadyH.cons (o := ⟨none, _, _, _, _, _⟩) rfl (fun K hK => ?_) ?_
                  · obtain ⟨⟨m0, m1, m2⟩, l0, l1, l2⟩ := three HOc6.out
                    go_simp
                    have HOc7 := Lib.hid (put3 HOc6.out (.int .u64 (ov : Int)) (.int .u64 (on : Int)) (.string ob))
                    have HAc7 := Lib.hid ((put3_other (w := wc6) (g := gO) (q := gA) HNE.out (.int .u64 (ov : Int)) (.int .u64 (on : Int)) (.string ob)).trans HAc6.out)
                    have HBc7 := Lib.hid (set3 (g := gO) HGO.out HBc6.out (.int .u64 (ov : Int)) (.int .u64 (on : Int)) (.string ob))
                    refine hK.out _ _ (mkS.out _ HBc7.out) (fun hHeld2 => ?_)
                    clear hK K hHeld
                    have hHeld := hHeld2
                    clear hHeld2
                    clear HBc6 HAc6 HOc6 m0 m1 m2 l0 l1 l2
                    try simp only [Act.put, List.setIfInBounds_toArray, List.set_cons_zero, List.set_cons_succ]
                    generalize (((wc6.setCell ⟨gO, 0, none⟩ (.int .u64 (ov : Int))).setCell ⟨gO, 1, none⟩ (.int .u64 (on : Int))).setCell ⟨gO, 2, none⟩ (.string ob)) = wc7 at *
                    refine wpAnyH_take (i := 15) (oi := ⟨some 17, _, _, _, _, _⟩) (v := ?_) rfl (by kernel_rfl) (by kernel_rfl) (by kernel_rfl) (fun _ _ _ h => by cases h.1) (Or.inl ⟨by rfl, by (intro w hSw; (try dsimp only at hSw); go_simp; try with_reducible rfl)⟩) hHeld ?_
                    try simp only [Act.put, List.setIfInBounds_toArray, List.set_cons_zero, List.set_cons_succ]
                    refine wpAnyH_take (i := 16) (oi := ⟨some 18, _, _, _, _, _⟩) (v := ?_) rfl (by kernel_rfl) (by kernel_rfl) (by kernel_rfl) (fun _ _ _ h => by cases h.1) (Or.inl ⟨by rfl, by (intro w hSw; (try dsimp only at hSw); go_simp; try with_reducible rfl)⟩) hHeld ?_
                    try simp only [Act.put, List.setIfInBounds_toArray, List.set_cons_zero, List.set_cons_succ]
                    refine wpAnyH_done (by kernel_rfl) ?_ _
                    exact ⟨rfl, gA, gO, ⟨rfl, HGA.out, HGO.out, HNE.out, HAc7.out, HOc7.out, HBc7.out⟩⟩
                  · exact AllReadyH.nil
                · exact AllReadyH.nil
              · exact AllReadyH.nil
            · exact AllReadyH.nil
          · exact AllReadyH.nil
      · refine AllReadyH.cons (o := ⟨some 16, _, _, _, _, _⟩) rfl (fun K hK => ?_) ?_
        · go_simp
          have hbn := alloc_below wc1 (.cells #[.int .u64 0, .int .u64 0, .string ⟨#[]⟩] 47)
          have HSc2 := Lib.hid ((hbn.block _ (lt_of_heap HSc1.out)).trans HSc1.out)
          have HOc2 := Lib.hid (heap_alloc_new wc1 (.cells #[.int .u64 0, .int .u64 0, .string ⟨#[]⟩] 47))
          have HBc2 := Lib.hid (HBc1.out.trans (hbn.mono HBc1.out.size))
          have HGO := Lib.hid HBc1.out.size
          refine hK.out _ _ (mkS.out _ HBc2.out) (fun hHeld2 => ?_)
          clear hK K hHeld
          have hHeld := hHeld2
          clear hHeld2
          clear hbn HBc1 HSc1
          try simp only [Act.put, List.setIfInBounds_toArray, List.set_cons_zero, List.set_cons_succ]
          generalize wc1.alloc (.cells #[.int .u64 0, .int .u64 0, .string ⟨#[]⟩] 47) = wc2 at *
          generalize wc1.heap.size = gO at *
          refine wpAnyH_ready (rs := [4, 11]) (by kernel_rfl) (by simp) ?_
          refine AllReadyH.cons (o := ⟨some 76, _, _, _, _, _⟩) rfl (fun K hK => ?_) ?_
          · go_simp
            refine (K7.out _ gS HSc2.out).mono ?_
            rintro ze wc3 ⟨rfl, hbn⟩
            try go_simp
            have HSc3 := Lib.hid ((hbn.block _ (lt_of_heap HSc2.out)).trans HSc2.out)
            have HOc3 := Lib.hid ((hbn.block _ (lt_of_heap HOc2.out)).trans HOc2.out)
            have HBc3 := Lib.hid (HBc2.out.trans (hbn.mono HBc2.out.size))
            refine hK.out _ _ (mkS.out _ HBc3.out) (fun hHeld2 => ?_)
            clear hK K hHeld
            have hHeld := hHeld2
            clear hHeld2
            clear hbn HBc2 HSc2 HOc2
            try simp only [Act.put, List.setIfInBounds_toArray, List.set_cons_zero, List.set_cons_succ]
            refine wpAnyH_ready (rs := [5, 11]) (by kernel_rfl) (by simp) ?_
            refine AllReadyH.cons (o := ⟨some 77, _, _, _, _, _⟩) rfl (fun K hK => ?_) ?_
            · go_simp
              refine (K14.out _).mono ?_
              rintro ze wc4 ⟨rfl, hbn⟩
              try go_simp
              have HSc4 := Lib.hid ((hbn.block _ (lt_of_heap HSc3.out)).trans HSc3.out)
              have HOc4 := Lib.hid ((hbn.block _ (lt_of_heap HOc3.out)).trans HOc3.out)
              have HBc4 := Lib.hid (HBc3.out.trans (hbn.mono HBc3.out.size))
              refine hK.out _ _ (mkS.out _ HBc4.out) (fun hHeld2 => ?_)
              clear hK K hHeld
              have hHeld := hHeld2
              clear hHeld2
              clear hbn HBc3 HSc3 HOc3
              try simp only [Act.put, List.setIfInBounds_toArray, List.set_cons_zero, List.set_cons_succ]
              refine wpAnyH_take (i := 6) (oi := ⟨some 71, _, _, _, _, _⟩) (v := ?_) rfl (by kernel_rfl) (by kernel_rfl) (by kernel_rfl) (fun _ _ _ h => by cases h.1) (Or.inl ⟨by rfl, by (intro w hSw; (try dsimp only at hSw); go_simp; try with_reducible rfl)⟩) hHeld ?_
              try simp only [Act.put, List.setIfInBounds_toArray, List.set_cons_zero, List.set_cons_succ]
              refine wpAnyH_take (i := 7) (oi := ⟨some 78, _, _, _, _, _⟩) (v := ?_) rfl (by kernel_rfl) (by kernel_rfl) (by kernel_rfl) (fun _ _ _ h => by cases h.1) (Or.inl ⟨by rfl, by (intro w hSw; (try dsimp only at hSw); go_simp; try with_reducible rfl)⟩) hHeld ?_
              try simp only [Act.put, List.setIfInBounds_toArray, List.set_cons_zero, List.set_cons_succ]
              refine wpAnyH_take (i := 8) (oi := ⟨some 79, _, _, _, _, _⟩) (v := ?_) rfl (by kernel_rfl) (by kernel_rfl) (by kernel_rfl) (fun _ _ _ h => by cases h.1) (Or.inl ⟨by rfl, by (intro w hSw; (try dsimp only at hSw); go_simp; try with_reducible rfl)⟩) hHeld ?_
              try simp only [Act.put, List.setIfInBounds_toArray, List.set_cons_zero, List.set_cons_succ]
              refine wpAnyH_take (i := 9) (oi := ⟨some 80, _, _, _, _, _⟩) (v := ?_) rfl (by kernel_rfl) (by kernel_rfl) (by kernel_rfl) (fun _ _ _ h => by cases h.1) (Or.inl ⟨by rfl, by (intro w hSw; (try dsimp only at hSw); go_simp; try with_reducible rfl)⟩) hHeld ?_
              try simp only [Act.put, List.setIfInBounds_toArray, List.set_cons_zero, List.set_cons_succ]
              refine wpAnyH_take (i := 10) (oi := ⟨some 81, _, _, _, _, _⟩) (v := ?_) rfl (by kernel_rfl) (by kernel_rfl) (by kernel_rfl) (fun _ _ _ h => by cases h.1) (Or.inl ⟨by rfl, by (intro w hSw; (try dsimp only at hSw); go_simp; try with_reducible rfl)⟩) hHeld ?_
              try simp only [Act.put, List.setIfInBounds_toArray, List.set_cons_zero, List.set_cons_succ]
              refine wpAnyH_ready (rs := [11]) (by kernel_rfl) (by simp) ?_
              refine AllReadyH.cons (o := ⟨some 15, _, _, _, _, _⟩) rfl (fun K hK => ?_) ?_
              · go_simp
                have hbn := alloc_below wc4 (.cells #[.int .u64 0, .int .u64 0, .int .u64 0, .int .u64 0, .string ⟨#[]⟩, .bool false, .int .u64 0, .int .u64 0, .int .i64 0] 39)
                have HSc5 := Lib.hid ((hbn.block _ (lt_of_heap HSc4.out)).trans HSc4.out)
                have HOc5 := Lib.hid ((hbn.block _ (lt_of_heap HOc4.out)).trans HOc4.out)
                have HAc5 : Hid (N9 (wc4.alloc (.cells #[.int .u64 0, .int .u64 0, .int .u64 0, .int .u64 0, .string ⟨#[]⟩, .bool false, .int .u64 0, .int .u64 0, .int .i64 0] 39)) wc4.heap.size (.int .u64 0) (.int .u64 0) (.int .u64 0) (.int .u64 0) (.string ⟨#[]⟩) (.bool false) (.int .u64 0) (.int .u64 0) (.int .i64 0)) := Lib.hid (heap_alloc_new wc4 _)
                have HBc5 := Lib.hid (HBc4.out.trans (hbn.mono HBc4.out.size))
                have HGA := Lib.hid HBc4.out.size
                have HNE : Hid (wc4.heap.size ≠ gO) := Lib.hid (Ne.symm (Nat.ne_of_lt (lt_of_heap HOc4.out)))
                refine hK.out _ _ (mkS.out _ HBc5.out) (fun hHeld2 => ?_)
                clear hK K hHeld
                have hHeld := hHeld2
                clear hHeld2
                clear hbn HBc4 HSc4 HOc4
                try simp only [Act.put, List.setIfInBounds_toArray, List.set_cons_zero, List.set_cons_succ]
                generalize wc4.alloc (.cells #[.int .u64 0, .int .u64 0, .int .u64 0, .int .u64 0, .string ⟨#[]⟩, .bool false, .int .u64 0, .int .u64 0, .int .i64 0] 39) = wc5 at *
                generalize wc4.heap.size = gA at *
                refine wpAnyH_ready (rs := [13]) (by kernel_rfl) (by simp) ?_
                refine AllReadyH.cons (o := ⟨none, _, _, _, _, _⟩) rfl (fun K hK => ?_) ?_
                · obtain ⟨⟨d0, d1, d2, d3, d4, d5, d6, d7, d8⟩, g0, g1, g2, g3, g4, g5, g6, g7, g8⟩ := nine HAc5.out
                  go_simp
                  have HAc6 := Lib.hid (N9.put HAc5.out (.int .u64 (e2 : Int)) (.int .u64 (v2 : Int)) (.int .u64 (n2 : Int)) (.int .u64 (x2 : Int)) (.string r2) (.bool o2) (.int .u64 (b2 : Int)) (.int .u64 (c2 : Int)) (.int .i64 t2))
                  have HOc6 := Lib.hid ((put_other (w := wc5) (g := gA) (q := gO) (Ne.symm HNE.out) (.int .u64 (e2 : Int)) (.int .u64 (v2 : Int)) (.int .u64 (n2 : Int)) (.int .u64 (x2 : Int)) (.string r2) (.bool o2) (.int .u64 (b2 : Int)) (.int .u64 (c2 : Int)) (.int .i64 t2)).trans HOc5.out)
                  have HBc6 := Lib.hid (set9 (g := gA) HGA.out HBc5.out (.int .u64 (e2 : Int)) (.int .u64 (v2 : Int)) (.int .u64 (n2 : Int)) (.int .u64 (x2 : Int)) (.string r2) (.bool o2) (.int .u64 (b2 : Int)) (.int .u64 (c2 : Int)) (.int .i64 t2))
                  refine hK.out _ _ (mkS.out _ HBc6.out) (fun hHeld2 => ?_)
                  clear hK K hHeld
                  have hHeld := hHeld2
                  clear hHeld2
                  clear HBc5 HSc5 HAc5 HOc5
                  clear d0 d1 d2 d3 d4 d5 d6 d7 d8 g0 g1 g2 g3 g4 g5 g6 g7 g8
                  try simp only [Act.put, List.setIfInBounds_toArray, List.set_cons_zero, List.set_cons_succ]
                  generalize (((((((((wc5.setCell ⟨gA, 0, none⟩ (.int .u64 (e2 : Int))).setCell ⟨gA, 1, none⟩ (.int .u64 (v2 : Int))).setCell ⟨gA, 2, none⟩ (.int .u64 (n2 : Int))).setCell ⟨gA, 3, none⟩ (.int .u64 (x2 : Int))).setCell ⟨gA, 4, none⟩ (.string r2)).setCell ⟨gA, 5, none⟩ (.bool o2)).setCell ⟨gA, 6, none⟩ (.int .u64 (b2 : Int))).setCell ⟨gA, 7, none⟩ (.int .u64 (c2 : Int))).setCell ⟨gA, 8, none⟩ (.int .i64 t2)) = wc6 at *
                  refine wpAnyH_ready (rs := [14]) (by kernel_rfl) (by simp) ?_
                  refine AllReadyH.cons (o := ⟨none, _, _, _, _, _⟩) rfl (fun K hK => ?_) ?_
                  · obtain ⟨⟨m0, m1, m2⟩, l0, l1, l2⟩ := three HOc6.out
                    go_simp
                    have HOc7 := Lib.hid (put3 HOc6.out (.int .u64 (ov : Int)) (.int .u64 (on : Int)) (.string ob))
                    have HAc7 := Lib.hid ((put3_other (w := wc6) (g := gO) (q := gA) HNE.out (.int .u64 (ov : Int)) (.int .u64 (on : Int)) (.string ob)).trans HAc6.out)
                    have HBc7 := Lib.hid (set3 (g := gO) HGO.out HBc6.out (.int .u64 (ov : Int)) (.int .u64 (on : Int)) (.string ob))
                    refine hK.out _ _ (mkS.out _ HBc7.out) (fun hHeld2 => ?_)
                    clear hK K hHeld
                    have hHeld := hHeld2
                    clear hHeld2
                    clear HBc6 HAc6 HOc6 m0 m1 m2 l0 l1 l2
                    try simp only [Act.put, List.setIfInBounds_toArray, List.set_cons_zero, List.set_cons_succ]
                    generalize (((wc6.setCell ⟨gO, 0, none⟩ (.int .u64 (ov : Int))).setCell ⟨gO, 1, none⟩ (.int .u64 (on : Int))).setCell ⟨gO, 2, none⟩ (.string ob)) = wc7 at *
                    refine wpAnyH_take (i := 15) (oi := ⟨some 17, _, _, _, _, _⟩) (v := ?_) rfl (by kernel_rfl) (by kernel_rfl) (by kernel_rfl) (fun _ _ _ h => by cases h.1) (Or.inl ⟨by rfl, by (intro w hSw; (try dsimp only at hSw); go_simp; try with_reducible rfl)⟩) hHeld ?_
                    try simp only [Act.put, List.setIfInBounds_toArray, List.set_cons_zero, List.set_cons_succ]
                    refine wpAnyH_take (i := 16) (oi := ⟨some 18, _, _, _, _, _⟩) (v := ?_) rfl (by kernel_rfl) (by kernel_rfl) (by kernel_rfl) (fun _ _ _ h => by cases h.1) (Or.inl ⟨by rfl, by (intro w hSw; (try dsimp only at hSw); go_simp; try with_reducible rfl)⟩) hHeld ?_
                    try simp only [Act.put, List.setIfInBounds_toArray, List.set_cons_zero, List.set_cons_succ]
                    refine wpAnyH_done (by kernel_rfl) ?_ _
                    exact ⟨rfl, gA, gO, ⟨rfl, HGA.out, HGO.out, HNE.out, HAc7.out, HOc7.out, HBc7.out⟩⟩
                  · exact AllReadyH.nil
                · exact AllReadyH.nil
              · exact AllReadyH.nil
            · refine AllReadyH.cons (o := ⟨some 15, _, _, _, _, _⟩) rfl (fun K hK => ?_) ?_
              · go_simp
                have hbn := alloc_below wc3 (.cells #[.int .u64 0, .int .u64 0, .int .u64 0, .int .u64 0, .string ⟨#[]⟩, .bool false, .int .u64 0, .int .u64 0, .int .i64 0] 39)
                have HSc4 := Lib.hid ((hbn.block _ (lt_of_heap HSc3.out)).trans HSc3.out)
                have HOc4 := Lib.hid ((hbn.block _ (lt_of_heap HOc3.out)).trans HOc3.out)
                have HAc4 : Hid (N9 (wc3.alloc (.cells #[.int .u64 0, .int .u64 0, .int .u64 0, .int .u64 0, .string ⟨#[]⟩, .bool false, .int .u64 0, .int .u64 0, .int .i64 0] 39)) wc3.heap.size (.int .u64 0) (.int .u64 0) (.int .u64 0) (.int .u64 0) (.string ⟨#[]⟩) (.bool false) (.int .u64 0) (.int .u64 0) (.int .i64 0)) := Lib.hid (heap_alloc_new wc3 _)
                have HBc4 := Lib.hid (HBc3.out.trans (hbn.mono HBc3.out.size))
                have HGA := Lib.hid HBc3.out.size
                have HNE : Hid (wc3.heap.size ≠ gO) := Lib.hid (Ne.symm (Nat.ne_of_lt (lt_of_heap HOc3.out)))
                refine hK.out _ _ (mkS.out _ HBc4.out) (fun hHeld2 => ?_)
                clear hK K hHeld
                have hHeld := hHeld2
                clear hHeld2
                clear hbn HBc3 HSc3 HOc3
                try simp only [Act.put, List.setIfInBounds_toArray, List.set_cons_zero, List.set_cons_succ]
                generalize wc3.alloc (.cells #[.int .u64 0, .int .u64 0, .int .u64 0, .int .u64 0, .string ⟨#[]⟩, .bool false, .int .u64 0, .int .u64 0, .int .i64 0] 39) = wc4 at *
                generalize wc3.heap.size = gA at *
                refine wpAnyH_ready (rs := [5]) (by kernel_rfl) (by simp) ?_
                refine AllReadyH.cons (o := ⟨some 77, _, _, _, _, _⟩) rfl (fun K hK => ?_) ?_
                · go_simp
                  refine (K14.out _).mono ?_
                  rintro ze wc5 ⟨rfl, hbn⟩
                  try go_simp
                  have HSc5 := Lib.hid ((hbn.block _ (lt_of_heap HSc4.out)).trans HSc4.out)
                  have HAc5 := Lib.hid (N9.later HAc4.out hbn)
                  have HOc5 := Lib.hid ((hbn.block _ (lt_of_heap HOc4.out)).trans HOc4.out)
                  have HBc5 := Lib.hid (HBc4.out.trans (hbn.mono HBc4.out.size))
                  refine hK.out _ _ (mkS.out _ HBc5.out) (fun hHeld2 => ?_)
                  clear hK K hHeld
                  have hHeld := hHeld2
                  clear hHeld2
                  clear hbn HBc4 HSc4 HAc4 HOc4
                  try simp only [Act.put, List.setIfInBounds_toArray, List.set_cons_zero, List.set_cons_succ]
                  refine wpAnyH_take (i := 6) (oi := ⟨some 71, _, _, _, _, _⟩) (v := ?_) rfl (by kernel_rfl) (by kernel_rfl) (by kernel_rfl) (fun _ _ _ h => by cases h.1) (Or.inl ⟨by rfl, by (intro w hSw; (try dsimp only at hSw); go_simp; try with_reducible rfl)⟩) hHeld ?_
                  try simp only [Act.put, List.setIfInBounds_toArray, List.set_cons_zero, List.set_cons_succ]
                  refine wpAnyH_take (i := 7) (oi := ⟨some 78, _, _, _, _, _⟩) (v := ?_) rfl (by kernel_rfl) (by kernel_rfl) (by kernel_rfl) (fun _ _ _ h => by cases h.1) (Or.inl ⟨by rfl, by (intro w hSw; (try dsimp only at hSw); go_simp; try with_reducible rfl)⟩) hHeld ?_
                  try simp only [Act.put, List.setIfInBounds_toArray, List.set_cons_zero, List.set_cons_succ]
                  refine wpAnyH_take (i := 8) (oi := ⟨some 79, _, _, _, _, _⟩) (v := ?_) rfl (by kernel_rfl) (by kernel_rfl) (by kernel_rfl) (fun _ _ _ h => by cases h.1) (Or.inl ⟨by rfl, by (intro w hSw; (try dsimp only at hSw); go_simp; try with_reducible rfl)⟩) hHeld ?_
                  try simp only [Act.put, List.setIfInBounds_toArray, List.set_cons_zero, List.set_cons_succ]
                  refine wpAnyH_take (i := 9) (oi := ⟨some 80, _, _, _, _, _⟩) (v := ?_) rfl (by kernel_rfl) (by kernel_rfl) (by kernel_rfl) (fun _ _ _ h => by cases h.1) (Or.inl ⟨by rfl, by (intro w hSw; (try dsimp only at hSw); go_simp; try with_reducible rfl)⟩) hHeld ?_
                  try simp only [Act.put, List.setIfInBounds_toArray, List.set_cons_zero, List.set_cons_succ]
                  refine wpAnyH_take (i := 10) (oi := ⟨some 81, _, _, _, _, _⟩) (v := ?_) rfl (by kernel_rfl) (by kernel_rfl) (by kernel_rfl) (fun _ _ _ h => by cases h.1) (Or.inl ⟨by rfl, by (intro w hSw; (try dsimp only at hSw); go_simp; try with_reducible rfl)⟩) hHeld ?_
                  try simp only [Act.put, List.setIfInBounds_toArray, List.set_cons_zero, List.set_cons_succ]
                  refine wpAnyH_ready (rs := [13]) (by kernel_rfl) (by simp) ?_
                  refine AllReadyH.cons (o := ⟨none, _, _, _, _, _⟩) rfl (fun K hK => ?_) ?_
                  · obtain ⟨⟨d0, d1, d2, d3, d4, d5, d6, d7, d8⟩, g0, g1, g2, g3, g4, g5, g6, g7, g8⟩ := nine HAc5.out
                    go_simp
                    have HAc6 := Lib.hid (N9.put HAc5.out (.int .u64 (e2 : Int)) (.int .u64 (v2 : Int)) (.int .u64 (n2 : Int)) (.int .u64 (x2 : Int)) (.string r2) (.bool o2) (.int .u64 (b2 : Int)) (.int .u64 (c2 : Int)) (.int .i64 t2))
                    have HOc6 := Lib.hid ((put_other (w := wc5) (g := gA) (q := gO) (Ne.symm HNE.out) (.int .u64 (e2 : Int)) (.int .u64 (v2 : Int)) (.int .u64 (n2 : Int)) (.int .u64 (x2 : Int)) (.string r2) (.bool o2) (.int .u64 (b2 : Int)) (.int .u64 (c2 : Int)) (.int .i64 t2)).trans HOc5.out)
                    have HBc6 := Lib.hid (set9 (g := gA) HGA.out HBc5.out (.int .u64 (e2 : Int)) (.int .u64 (v2 : Int)) (.int .u64 (n2 : Int)) (.int .u64 (x2 : Int)) (.string r2) (.bool o2) (.int .u64 (b2 : Int)) (.int .u64 (c2 : Int)) (.int .i64 t2))
                    refine hK.out _ _ (mkS.out _ HBc6.out) (fun hHeld2 => ?_)
                    clear hK K hHeld
                    have hHeld := hHeld2
                    clear hHeld2
                    clear HBc5 HSc5 HAc5 HOc5
                    clear d0 d1 d2 d3 d4 d5 d6 d7 d8 g0 g1 g2 g3 g4 g5 g6 g7 g8
                    try simp only [Act.put, List.setIfInBounds_toArray, List.set_cons_zero, List.set_cons_succ]
                    generalize (((((((((wc5.setCell ⟨gA, 0, none⟩ (.int .u64 (e2 : Int))).setCell ⟨gA, 1, none⟩ (.int .u64 (v2 : Int))).setCell ⟨gA, 2, none⟩ (.int .u64 (n2 : Int))).setCell ⟨gA, 3, none⟩ (.int .u64 (x2 : Int))).setCell ⟨gA, 4, none⟩ (.string r2)).setCell ⟨gA, 5, none⟩ (.bool o2)).setCell ⟨gA, 6, none⟩ (.int .u64 (b2 : Int))).setCell ⟨gA, 7, none⟩ (.int .u64 (c2 : Int))).setCell ⟨gA, 8, none⟩ (.int .i64 t2)) = wc6 at *
                    refine wpAnyH_ready (rs := [14]) (by kernel_rfl) (by simp) ?_
                    refine AllReadyH.cons (o := ⟨none, _, _, _, _, _⟩) rfl (fun K hK => ?_) ?_
                    · obtain ⟨⟨m0, m1, m2⟩, l0, l1, l2⟩ := three HOc6.out
                      go_simp
                      have HOc7 := Lib.hid (put3 HOc6.out (.int .u64 (ov : Int)) (.int .u64 (on : Int)) (.string ob))
                      have HAc7 := Lib.hid ((put3_other (w := wc6) (g := gO) (q := gA) HNE.out (.int .u64 (ov : Int)) (.int .u64 (on : Int)) (.string ob)).trans HAc6.out)
                      have HBc7 := Lib.hid (set3 (g := gO) HGO.out HBc6.out (.int .u64 (ov : Int)) (.int .u64 (on : Int)) (.string ob))
                      refine hK.out _ _ (mkS.out _ HBc7.out) (fun hHeld2 => ?_)
                      clear hK K hHeld
                      have hHeld := hHeld2
                      clear hHeld2
                      clear HBc6 HAc6 HOc6 m0 m1 m2 l0 l1 l2
                      try simp only [Act.put, List.setIfInBounds_toArray, List.set_cons_zero, List.set_cons_succ]
                      generalize (((wc6.setCell ⟨gO, 0, none⟩ (.int .u64 (ov : Int))).setCell ⟨gO, 1, none⟩ (.int .u64 (on : Int))).setCell ⟨gO, 2, none⟩ (.string ob)) = wc7 at *
                      refine wpAnyH_take (i := 15) (oi := ⟨some 17, _, _, _, _, _⟩) (v := ?_) rfl (by kernel_rfl) (by kernel_rfl) (by kernel_rfl) (fun _ _ _ h => by cases h.1) (Or.inl ⟨by rfl, by (intro w hSw; (try dsimp only at hSw); go_simp; try with_reducible rfl)⟩) hHeld ?_
                      try simp only [Act.put, List.setIfInBounds_toArray, List.set_cons_zero, List.set_cons_succ]
                      refine wpAnyH_take (i := 16) (oi := ⟨some 18, _, _, _, _, _⟩) (v := ?_) rfl (by kernel_rfl) (by kernel_rfl) (by kernel_rfl) (fun _ _ _ h => by cases h.1) (Or.inl ⟨by rfl, by (intro w hSw; (try dsimp only at hSw); go_simp; try with_reducible rfl)⟩) hHeld ?_
                      try simp only [Act.put, List.setIfInBounds_toArray, List.set_cons_zero, List.set_cons_succ]
                      refine wpAnyH_done (by kernel_rfl) ?_ _
                      exact ⟨rfl, gA, gO, ⟨rfl, HGA.out, HGO.out, HNE.out, HAc7.out, HOc7.out, HBc7.out⟩⟩
                    · exact AllReadyH.nil
                  · exact AllReadyH.nil
                · exact AllReadyH.nil
              · exact AllReadyH.nil
          · refine AllReadyH.cons (o := ⟨some 15, _, _, _, _, _⟩) rfl (fun K hK => ?_) ?_
            · go_simp
              have hbn := alloc_below wc2 (.cells #[.int .u64 0, .int .u64 0, .int .u64 0, .int .u64 0, .string ⟨#[]⟩, .bool false, .int .u64 0, .int .u64 0, .int .i64 0] 39)
              have HSc3 := Lib.hid ((hbn.block _ (lt_of_heap HSc2.out)).trans HSc2.out)
              have HOc3 := Lib.hid ((hbn.block _ (lt_of_heap HOc2.out)).trans HOc2.out)
              have HAc3 : Hid (N9 (wc2.alloc (.cells #[.int .u64 0, .int .u64 0, .int .u64 0, .int .u64 0, .string ⟨#[]⟩, .bool false, .int .u64 0, .int .u64 0, .int .i64 0] 39)) wc2.heap.size (.int .u64 0) (.int .u64 0) (.int .u64 0) (.int .u64 0) (.string ⟨#[]⟩) (.bool false) (.int .u64 0) (.int .u64 0) (.int .i64 0)) := Lib.hid (heap_alloc_new wc2 _)
              have HBc3 := Lib.hid (HBc2.out.trans (hbn.mono HBc2.out.size))
              have HGA := Lib.hid HBc2.out.size
              have HNE : Hid (wc2.heap.size ≠ gO) := Lib.hid (Ne.symm (Nat.ne_of_lt (lt_of_heap HOc2.out)))
              refine hK.out _ _ (mkS.out _ HBc3.out) (fun hHeld2 => ?_)
              clear hK K hHeld
              have hHeld := hHeld2
              clear hHeld2
              clear hbn HBc2 HSc2 HOc2
              try simp only [Act.put, List.setIfInBounds_toArray, List.set_cons_zero, List.set_cons_succ]
              generalize wc2.alloc (.cells #[.int .u64 0, .int .u64 0, .int .u64 0, .int .u64 0, .string ⟨#[]⟩, .bool false, .int .u64 0, .int .u64 0, .int .i64 0] 39) = wc3 at *
              generalize wc2.heap.size = gA at *
              refine wpAnyH_ready (rs := [4]) (by kernel_rfl) (by simp) ?_
              refine AllReadyH.cons (o := ⟨some 76, _, _, _, _, _⟩) rfl (fun K hK => ?_) ?_
              · go_simp
                refine (K7.out _ gS HSc3.out).mono ?_
                rintro ze wc4 ⟨rfl, hbn⟩
                try go_simp
                have HSc4 := Lib.hid ((hbn.block _ (lt_of_heap HSc3.out)).trans HSc3.out)
                have HAc4 := Lib.hid (N9.later HAc3.out hbn)
                have HOc4 := Lib.hid ((hbn.block _ (lt_of_heap HOc3.out)).trans HOc3.out)
                have HBc4 := Lib.hid (HBc3.out.trans (hbn.mono HBc3.out.size))
                refine hK.out _ _ (mkS.out _ HBc4.out) (fun hHeld2 => ?_)
                clear hK K hHeld
                have hHeld := hHeld2
                clear hHeld2
                clear hbn HBc3 HSc3 HAc3 HOc3
                try simp only [Act.put, List.setIfInBounds_toArray, List.set_cons_zero, List.set_cons_succ]
                refine wpAnyH_ready (rs := [5]) (by kernel_rfl) (by simp) ?_
                refine AllReadyH.cons (o := ⟨some 77, _, _, _, _, _⟩) rfl (fun K hK => ?_) ?_
                · go_simp
                  refine (K14.out _).mono ?_
                  rintro ze wc5 ⟨rfl, hbn⟩
                  try go_simp
                  have HSc5 := Lib.hid ((hbn.block _ (lt_of_heap HSc4.out)).trans HSc4.out)
                  have HAc5 := Lib.hid (N9.later HAc4.out hbn)
                  have HOc5 := Lib.hid ((hbn.block _ (lt_of_heap HOc4.out)).trans HOc4.out)
                  have HBc5 := Lib.hid (HBc4.out.trans (hbn.mono HBc4.out.size))
                  refine hK.out _ _ (mkS.out _ HBc5.out) (fun hHeld2 => ?_)
                  clear hK K hHeld
                  have hHeld := hHeld2
                  clear hHeld2
                  clear hbn HBc4 HSc4 HAc4 HOc4
                  try simp only [Act.put, List.setIfInBounds_toArray, List.set_cons_zero, List.set_cons_succ]
                  refine wpAnyH_take (i := 6) (oi := ⟨some 71, _, _, _, _, _⟩) (v := ?_) rfl (by kernel_rfl) (by kernel_rfl) (by kernel_rfl) (fun _ _ _ h => by cases h.1) (Or.inl ⟨by rfl, by (intro w hSw; (try dsimp only at hSw); go_simp; try with_reducible rfl)⟩) hHeld ?_
                  try simp only [Act.put, List.setIfInBounds_toArray, List.set_cons_zero, List.set_cons_succ]
                  refine wpAnyH_take (i := 7) (oi := ⟨some 78, _, _, _, _, _⟩) (v := ?_) rfl (by kernel_rfl) (by kernel_rfl) (by kernel_rfl) (fun _ _ _ h => by cases h.1) (Or.inl ⟨by rfl, by (intro w hSw; (try dsimp only at hSw); go_simp; try with_reducible rfl)⟩) hHeld ?_
                  try simp only [Act.put, List.setIfInBounds_toArray, List.set_cons_zero, List.set_cons_succ]
                  refine wpAnyH_take (i := 8) (oi := ⟨some 79, _, _, _, _, _⟩) (v := ?_) rfl (by kernel_rfl) (by kernel_rfl) (by kernel_rfl) (fun _ _ _ h => by cases h.1) (Or.inl ⟨by rfl, by (intro w hSw; (try dsimp only at hSw); go_simp; try with_reducible rfl)⟩) hHeld ?_
                  try simp only [Act.put, List.setIfInBounds_toArray, List.set_cons_zero, List.set_cons_succ]
                  refine wpAnyH_take (i := 9) (oi := ⟨some 80, _, _, _, _, _⟩) (v := ?_) rfl (by kernel_rfl) (by kernel_rfl) (by kernel_rfl) (fun _ _ _ h => by cases h.1) (Or.inl ⟨by rfl, by (intro w hSw; (try dsimp only at hSw); go_simp; try with_reducible rfl)⟩) hHeld ?_
                  try simp only [Act.put, List.setIfInBounds_toArray, List.set_cons_zero, List.set_cons_succ]
                  refine wpAnyH_take (i := 10) (oi := ⟨some 81, _, _, _, _, _⟩) (v := ?_) rfl (by kernel_rfl) (by kernel_rfl) (by kernel_rfl) (fun _ _ _ h => by cases h.1) (Or.inl ⟨by rfl, by (intro w hSw; (try dsimp only at hSw); go_simp; try with_reducible rfl)⟩) hHeld ?_
                  try simp only [Act.put, List.setIfInBounds_toArray, List.set_cons_zero, List.set_cons_succ]
                  refine wpAnyH_ready (rs := [13]) (by kernel_rfl) (by simp) ?_
                  refine AllReadyH.cons (o := ⟨none, _, _, _, _, _⟩) rfl (fun K hK => ?_) ?_
                  · obtain ⟨⟨d0, d1, d2, d3, d4, d5, d6, d7, d8⟩, g0, g1, g2, g3, g4, g5, g6, g7, g8⟩ := nine HAc5.out
                    go_simp
                    have HAc6 := Lib.hid (N9.put HAc5.out (.int .u64 (e2 : Int)) (.int .u64 (v2 : Int)) (.int .u64 (n2 : Int)) (.int .u64 (x2 : Int)) (.string r2) (.bool o2) (.int .u64 (b2 : Int)) (.int .u64 (c2 : Int)) (.int .i64 t2))
                    have HOc6 := Lib.hid ((put_other (w := wc5) (g := gA) (q := gO) (Ne.symm HNE.out) (.int .u64 (e2 : Int)) (.int .u64 (v2 : Int)) (.int .u64 (n2 : Int)) (.int .u64 (x2 : Int)) (.string r2) (.bool o2) (.int .u64 (b2 : Int)) (.int .u64 (c2 : Int)) (.int .i64 t2)).trans HOc5.out)
                    have HBc6 := Lib.hid (set9 (g := gA) HGA.out HBc5.out (.int .u64 (e2 : Int)) (.int .u64 (v2 : Int)) (.int .u64 (n2 : Int)) (.int .u64 (x2 : Int)) (.string r2) (.bool o2) (.int .u64 (b2 : Int)) (.int .u64 (c2 : Int)) (.int .i64 t2))
                    refine hK.out _ _ (mkS.out _ HBc6.out) (fun hHeld2 => ?_)
                    clear hK K hHeld
                    have hHeld := hHeld2
                    clear hHeld2
                    clear HBc5 HSc5 HAc5 HOc5
                    clear d0 d1 d2 d3 d4 d5 d6 d7 d8 g0 g1 g2 g3 g4 g5 g6 g7 g8
                    try simp only [Act.put, List.setIfInBounds_toArray, List.set_cons_zero, List.set_cons_succ]
                    generalize (((((((((wc5.setCell ⟨gA, 0, none⟩ (.int .u64 (e2 : Int))).setCell ⟨gA, 1, none⟩ (.int .u64 (v2 : Int))).setCell ⟨gA, 2, none⟩ (.int .u64 (n2 : Int))).setCell ⟨gA, 3, none⟩ (.int .u64 (x2 : Int))).setCell ⟨gA, 4, none⟩ (.string r2)).setCell ⟨gA, 5, none⟩ (.bool o2)).setCell ⟨gA, 6, none⟩ (.int .u64 (b2 : Int))).setCell ⟨gA, 7, none⟩ (.int .u64 (c2 : Int))).setCell ⟨gA, 8, none⟩ (.int .i64 t2)) = wc6 at *
                    refine wpAnyH_ready (rs := [14]) (by kernel_rfl) (by simp) ?_
                    refine AllReadyH.cons (o := ⟨none, _, _, _, _, _⟩) rfl (fun K hK => ?_) ?_
                    · obtain ⟨⟨m0, m1, m2⟩, l0, l1, l2⟩ := three HOc6.out
                      go_simp
                      have HOc7 := Lib.hid (put3 HOc6.out (.int .u64 (ov : Int)) (.int .u64 (on : Int)) (.string ob))
                      have HAc7 := Lib.hid ((put3_other (w := wc6) (g := gO) (q := gA) HNE.out (.int .u64 (ov : Int)) (.int .u64 (on : Int)) (.string ob)).trans HAc6.out)
                      have HBc7 := Lib.hid (set3 (g := gO) HGO.out HBc6.out (.int .u64 (ov : Int)) (.int .u64 (on : Int)) (.string ob))
                      refine hK.out _ _ (mkS.out _ HBc7.out) (fun hHeld2 => ?_)
                      clear hK K hHeld
                      have hHeld := hHeld2
                      clear hHeld2
                      clear HBc6 HAc6 HOc6 m0 m1 m2 l0 l1 l2
                      try simp only [Act.put, List.setIfInBounds_toArray, List.set_cons_zero, List.set_cons_succ]
                      generalize (((wc6.setCell ⟨gO, 0, none⟩ (.int .u64 (ov : Int))).setCell ⟨gO, 1, none⟩ (.int .u64 (on : Int))).setCell ⟨gO, 2, none⟩ (.string ob)) = wc7 at *
                      refine wpAnyH_take (i := 15) (oi := ⟨some 17, _, _, _, _, _⟩) (v := ?_) rfl (by kernel_rfl) (by kernel_rfl) (by kernel_rfl) (fun _ _ _ h => by cases h.1) (Or.inl ⟨by rfl, by (intro w hSw; (try dsimp only at hSw); go_simp; try with_reducible rfl)⟩) hHeld ?_
                      try simp only [Act.put, List.setIfInBounds_toArray, List.set_cons_zero, List.set_cons_succ]
                      refine wpAnyH_take (i := 16) (oi := ⟨some 18, _, _, _, _, _⟩) (v := ?_) rfl (by kernel_rfl) (by kernel_rfl) (by kernel_rfl) (fun _ _ _ h => by cases h.1) (Or.inl ⟨by rfl, by (intro w hSw; (try dsimp only at hSw); go_simp; try with_reducible rfl)⟩) hHeld ?_
                      try simp only [Act.put, List.setIfInBounds_toArray, List.set_cons_zero, List.set_cons_succ]
                      refine wpAnyH_done (by kernel_rfl) ?_ _
                      exact ⟨rfl, gA, gO, ⟨rfl, HGA.out, HGO.out, HNE.out, HAc7.out, HOc7.out, HBc7.out⟩⟩
                    · exact AllReadyH.nil
                  · exact AllReadyH.nil
                · exact AllReadyH.nil
              · exact AllReadyH.nil
            · exact AllReadyH.nil
        · exact AllReadyH.nil
  · refine AllReadyH.cons (o := ⟨some 15, _, _, _, _, _⟩) rfl (fun K hK => ?_) ?_
    · go_simp
      have hbn := alloc_below wc0 (.cells #[.int .u64 0, .int .u64 0, .int .u64 0, .int .u64 0, .string ⟨#[]⟩, .bool false, .int .u64 0, .int .u64 0, .int .i64 0] 39)
      have HAc1 : Hid (N9 (wc0.alloc (.cells #[.int .u64 0, .int .u64 0, .int .u64 0, .int .u64 0, .string ⟨#[]⟩, .bool false, .int .u64 0, .int .u64 0, .int .i64 0] 39)) wc0.heap.size (.int .u64 0) (.int .u64 0) (.int .u64 0) (.int .u64 0) (.string ⟨#[]⟩) (.bool false) (.int .u64 0) (.int .u64 0) (.int .i64 0)) := Lib.hid (heap_alloc_new wc0 _)
      have HBc1 := Lib.hid (HB0.out.trans (hbn.mono HB0.out.size))
      have HGA := Lib.hid HB0.out.size
      refine hK.out _ _ (mkS.out _ HBc1.out) (fun hHeld2 => ?_)
      clear hK K hHeld
      have hHeld := hHeld2
      clear hHeld2
      clear hbn HB0
      try simp only [Act.put, List.setIfInBounds_toArray, List.set_cons_zero, List.set_cons_succ]
      generalize wc0.alloc (.cells #[.int .u64 0, .int .u64 0, .int .u64 0, .int .u64 0, .string ⟨#[]⟩, .bool false, .int .u64 0, .int .u64 0, .int .i64 0] 39) = wc1 at *
      generalize wc0.heap.size = gA at *
      refine wpAnyH_ready (rs := [3, 12]) (by kernel_rfl) (by simp) ?_
      refine AllReadyH.cons (o := ⟨some 75, _, _, _, _, _⟩) rfl (fun K hK => ?_) ?_
      · go_simp
        have hbn := alloc_below wc1 (.cells #[.int .u64 1, .int .u64 1] 22)
        have HAc2 := Lib.hid (N9.later HAc1.out hbn)
        have HSc2 := Lib.hid (heap_alloc_new wc1 (.cells #[.int .u64 1, .int .u64 1] 22))
        have HBc2 := Lib.hid (HBc1.out.trans (hbn.mono HBc1.out.size))
        refine hK.out _ _ (mkS.out _ HBc2.out) (fun hHeld2 => ?_)
        clear hK K hHeld
        have hHeld := hHeld2
        clear hHeld2
        clear hbn HBc1 HAc1
        try simp only [Act.put, List.setIfInBounds_toArray, List.set_cons_zero, List.set_cons_succ]
        generalize wc1.alloc (.cells #[.int .u64 1, .int .u64 1] 22) = wc2 at *
        generalize wc1.heap.size = gS at *
        refine wpAnyH_ready (rs := [4, 12]) (by kernel_rfl) (by simp) ?_
        refine AllReadyH.cons (o := ⟨some 76, _, _, _, _, _⟩) rfl (fun K hK => ?_) ?_
        · go_simp
          refine (K7.out _ gS HSc2.out).mono ?_
          rintro ze wc3 ⟨rfl, hbn⟩
          try go_simp
          have HSc3 := Lib.hid ((hbn.block _ (lt_of_heap HSc2.out)).trans HSc2.out)
          have HAc3 := Lib.hid (N9.later HAc2.out hbn)
          have HBc3 := Lib.hid (HBc2.out.trans (hbn.mono HBc2.out.size))
          refine hK.out _ _ (mkS.out _ HBc3.out) (fun hHeld2 => ?_)
          clear hK K hHeld
          have hHeld := hHeld2
          clear hHeld2
          clear hbn HBc2 HSc2 HAc2
          try simp only [Act.put, List.setIfInBounds_toArray, List.set_cons_zero, List.set_cons_succ]
          refine wpAnyH_ready (rs := [5, 12]) (by kernel_rfl) (by simp) ?_
          refine AllReadyH.cons (o := ⟨some 77, _, _, _, _, _⟩) rfl (fun K hK => ?_) ?_
          · go_simp
            refine (K14.out _).mono ?_
            rintro ze wc4 ⟨rfl, hbn⟩
            try go_simp
            have HSc4 := Lib.hid ((hbn.block _ (lt_of_heap HSc3.out)).trans HSc3.out)
            have HAc4 := Lib.hid (N9.later HAc3.out hbn)
            have HBc4 := Lib.hid (HBc3.out.trans (hbn.mono HBc3.out.size))
            refine hK.out _ _ (mkS.out _ HBc4.out) (fun hHeld2 => ?_)
            clear hK K hHeld
            have hHeld := hHeld2
            clear hHeld2
            clear hbn HBc3 HSc3 HAc3
            try simp only [Act.put, List.setIfInBounds_toArray, List.set_cons_zero, List.set_cons_succ]
            refine wpAnyH_take (i := 6) (oi := ⟨some 71, _, _, _, _, _⟩) (v := ?_) rfl (by kernel_rfl) (by kernel_rfl) (by kernel_rfl) (fun _ _ _ h => by cases h.1) (Or.inl ⟨by rfl, by (intro w hSw; (try dsimp only at hSw); go_simp; try with_reducible rfl)⟩) hHeld ?_
            try simp only [Act.put, List.setIfInBounds_toArray, List.set_cons_zero, List.set_cons_succ]
            refine wpAnyH_take (i := 7) (oi := ⟨some 78, _, _, _, _, _⟩) (v := ?_) rfl (by kernel_rfl) (by kernel_rfl) (by kernel_rfl) (fun _ _ _ h => by cases h.1) (Or.inl ⟨by rfl, by (intro w hSw; (try dsimp only at hSw); go_simp; try with_reducible rfl)⟩) hHeld ?_
            try simp only [Act.put, List.setIfInBounds_toArray, List.set_cons_zero, List.set_cons_succ]
            refine wpAnyH_take (i := 8) (oi := ⟨some 79, _, _, _, _, _⟩) (v := ?_) rfl (by kernel_rfl) (by kernel_rfl) (by kernel_rfl) (fun _ _ _ h => by cases h.1) (Or.inl ⟨by rfl, by (intro w hSw; (try dsimp only at hSw); go_simp; try with_reducible rfl)⟩) hHeld ?_
            try simp only [Act.put, List.setIfInBounds_toArray, List.set_cons_zero, List.set_cons_succ]
            refine wpAnyH_take (i := 9) (oi := ⟨some 80, _, _, _, _, _⟩) (v := ?_) rfl (by kernel_rfl) (by kernel_rfl) (by kernel_rfl) (fun _ _ _ h => by cases h.1) (Or.inl ⟨by rfl, by (intro w hSw; (try dsimp only at hSw); go_simp; try with_reducible rfl)⟩) hHeld ?_
            try simp only [Act.put, List.setIfInBounds_toArray, List.set_cons_zero, List.set_cons_succ]
            refine wpAnyH_take (i := 10) (oi := ⟨some 81, _, _, _, _, _⟩) (v := ?_) rfl (by kernel_rfl) (by kernel_rfl) (by kernel_rfl) (fun _ _ _ h => by cases h.1) (Or.inl ⟨by rfl, by (intro w hSw; (try dsimp only at hSw); go_simp; try with_reducible rfl)⟩) hHeld ?_
            try simp only [Act.put, List.setIfInBounds_toArray, List.set_cons_zero, List.set_cons_succ]
            refine wpAnyH_ready (rs := [12]) (by kernel_rfl) (by simp) ?_
            refine AllReadyH.cons (o := ⟨some 16, _, _, _, _, _⟩) rfl (fun K hK => ?_) ?_
            · go_simp
              have hbn := alloc_below wc4 (.cells #[.int .u64 0, .int .u64 0, .string ⟨#[]⟩] 47)
              have HSc5 := Lib.hid ((hbn.block _ (lt_of_heap HSc4.out)).trans HSc4.out)
              have HAc5 := Lib.hid (N9.later HAc4.out hbn)
              have HOc5 := Lib.hid (heap_alloc_new wc4 (.cells #[.int .u64 0, .int .u64 0, .string ⟨#[]⟩] 47))
              have HBc5 := Lib.hid (HBc4.out.trans (hbn.mono HBc4.out.size))
              have HGO := Lib.hid HBc4.out.size
              have HNE : Hid (gA ≠ wc4.heap.size) := Lib.hid (Nat.ne_of_lt (lt_of_heap HAc4.out))
              refine hK.out _ _ (mkS.out _ HBc5.out) (fun hHeld2 => ?_)
              clear hK K hHeld
              have hHeld := hHeld2
              clear hHeld2
              clear hbn HBc4 HSc4 HAc4
              try simp only [Act.put, List.setIfInBounds_toArray, List.set_cons_zero, List.set_cons_succ]
              generalize wc4.alloc (.cells #[.int .u64 0, .int .u64 0, .string ⟨#[]⟩] 47) = wc5 at *
              generalize wc4.heap.size = gO at *
              refine wpAnyH_ready (rs := [13]) (by kernel_rfl) (by simp) ?_
              refine AllReadyH.cons (o := ⟨none, _, _, _, _, _⟩) rfl (fun K hK => ?_) ?_
              · obtain ⟨⟨d0, d1, d2, d3, d4, d5, d6, d7, d8⟩, g0, g1, g2, g3, g4, g5, g6, g7, g8⟩ := nine HAc5.out
                go_simp
                have HAc6 := Lib.hid (N9.put HAc5.out (.int .u64 (e2 : Int)) (.int .u64 (v2 : Int)) (.int .u64 (n2 : Int)) (.int .u64 (x2 : Int)) (.string r2) (.bool o2) (.int .u64 (b2 : Int)) (.int .u64 (c2 : Int)) (.int .i64 t2))
                have HOc6 := Lib.hid ((put_other (w := wc5) (g := gA) (q := gO) (Ne.symm HNE.out) (.int .u64 (e2 : Int)) (.int .u64 (v2 : Int)) (.int .u64 (n2 : Int)) (.int .u64 (x2 : Int)) (.string r2) (.bool o2) (.int .u64 (b2 : Int)) (.int .u64 (c2 : Int)) (.int .i64 t2)).trans HOc5.out)
                have HBc6 := Lib.hid (set9 (g := gA) HGA.out HBc5.out (.int .u64 (e2 : Int)) (.int .u64 (v2 : Int)) (.int .u64 (n2 : Int)) (.int .u64 (x2 : Int)) (.string r2) (.bool o2) (.int .u64 (b2 : Int)) (.int .u64 (c2 : Int)) (.int .i64 t2))
                refine hK.out _ _ (mkS.out _ HBc6.out) (fun hHeld2 => ?_)
                clear hK K hHeld
                have hHeld := hHeld2
                clear hHeld2
                clear HBc5 HSc5 HAc5 HOc5
                clear d0 d1 d2 d3 d4 d5 d6 d7 d8 g0 g1 g2 g3 g4 g5 g6 g7 g8
                try simp only [Act.put, List.setIfInBounds_toArray, List.set_cons_zero, List.set_cons_succ]
                generalize (((((((((wc5.setCell ⟨gA, 0, none⟩ (.int .u64 (e2 : Int))).setCell ⟨gA, 1, none⟩ (.int .u64 (v2 : Int))).setCell ⟨gA, 2, none⟩ (.int .u64 (n2 : Int))).setCell ⟨gA, 3, none⟩ (.int .u64 (x2 : Int))).setCell ⟨gA, 4, none⟩ (.string r2)).setCell ⟨gA, 5, none⟩ (.bool o2)).setCell ⟨gA, 6, none⟩ (.int .u64 (b2 : Int))).setCell ⟨gA, 7, none⟩ (.int .u64 (c2 : Int))).setCell ⟨gA, 8, none⟩ (.int .i64 t2)) = wc6 at *
                refine wpAnyH_ready (rs := [14]) (by kernel_rfl) (by simp) ?_
                refine AllReadyH.cons (o := ⟨none, _, _, _, _, _⟩) rfl (fun K hK => ?_) ?_
                · obtain ⟨⟨m0, m1, m2⟩, l0, l1, l2⟩ := three HOc6.out
                  go_simp
                  have HOc7 := Lib.hid (put3 HOc6.out (.int .u64 (ov : Int)) (.int .u64 (on : Int)) (.string ob))
                  have HAc7 := Lib.hid ((put3_other (w := wc6) (g := gO) (q := gA) HNE.out (.int .u64 (ov : Int)) (.int .u64 (on : Int)) (.string ob)).trans HAc6.out)
                  have HBc7 := Lib.hid (set3 (g := gO) HGO.out HBc6.out (.int .u64 (ov : Int)) (.int .u64 (on : Int)) (.string ob))
                  refine hK.out _ _ (mkS.out _ HBc7.out) (fun hHeld2 => ?_)
                  clear hK K hHeld
                  have hHeld := hHeld2
                  clear hHeld2
                  clear HBc6 HAc6 HOc6 m0 m1 m2 l0 l1 l2
                  try simp only [Act.put, List.setIfInBounds_toArray, List.set_cons_zero, List.set_cons_succ]
                  generalize (((wc6.setCell ⟨gO, 0, none⟩ (.int .u64 (ov : Int))).setCell ⟨gO, 1, none⟩ (.int .u64 (on : Int))).setCell ⟨gO, 2, none⟩ (.string ob)) = wc7 at *
                  refine wpAnyH_take (i := 15) (oi := ⟨some 17, _, _, _, _, _⟩) (v := ?_) rfl (by kernel_rfl) (by kernel_rfl) (by kernel_rfl) (fun _ _ _ h => by cases h.1) (Or.inl ⟨by rfl, by (intro w hSw; (try dsimp only at hSw); go_simp; try with_reducible rfl)⟩) hHeld ?_
                  try simp only [Act.put, List.setIfInBounds_toArray, List.set_cons_zero, List.set_cons_succ]
                  refine wpAnyH_take (i := 16) (oi := ⟨some 18, _, _, _, _, _⟩) (v := ?_) rfl (by kernel_rfl) (by kernel_rfl) (by kernel_rfl) (fun _ _ _ h => by cases h.1) (Or.inl ⟨by rfl, by (intro w hSw; (try dsimp only at hSw); go_simp; try with_reducible rfl)⟩) hHeld ?_
                  try simp only [Act.put, List.setIfInBounds_toArray, List.set_cons_zero, List.set_cons_succ]
                  refine wpAnyH_done (by kernel_rfl) ?_ _
                  exact ⟨rfl, gA, gO, ⟨rfl, HGA.out, HGO.out, HNE.out, HAc7.out, HOc7.out, HBc7.out⟩⟩
                · exact AllReadyH.nil
              · exact AllReadyH.nil
            · exact AllReadyH.nil
          · refine AllReadyH.cons (o := ⟨some 16, _, _, _, _, _⟩) rfl (fun K hK => ?_) ?_
            · go_simp
              have hbn := alloc_below wc3 (.cells #[.int .u64 0, .int .u64 0, .string ⟨#[]⟩] 47)
              have HSc4 := Lib.hid ((hbn.block _ (lt_of_heap HSc3.out)).trans HSc3.out)
              have HAc4 := Lib.hid (N9.later HAc3.out hbn)
              have HOc4 := Lib.hid (heap_alloc_new wc3 (.cells #[.int .u64 0, .int .u64 0, .string ⟨#[]⟩] 47))
              have HBc4 := Lib.hid (HBc3.out.trans (hbn.mono HBc3.out.size))
              have HGO := Lib.hid HBc3.out.size
              have HNE : Hid (gA ≠ wc3.heap.size) := Lib.hid (Nat.ne_of_lt (lt_of_heap HAc3.out))
              refine hK.out _ _ (mkS.out _ HBc4.out) (fun hHeld2 => ?_)
              clear hK K hHeld
              have hHeld := hHeld2
              clear hHeld2
              clear hbn HBc3 HSc3 HAc3
              try simp only [Act.put, List.setIfInBounds_toArray, List.set_cons_zero, List.set_cons_succ]
              generalize wc3.alloc (.cells #[.int .u64 0, .int .u64 0, .string ⟨#[]⟩] 47) = wc4 at *
              generalize wc3.heap.size = gO at *
              refine wpAnyH_ready (rs := [5]) (by kernel_rfl) (by simp) ?_
              refine AllReadyH.cons (o := ⟨some 77, _, _, _, _, _⟩) rfl (fun K hK => ?_) ?_
              · go_simp
                refine (K14.out _).mono ?_
                rintro ze wc5 ⟨rfl, hbn⟩
                try go_simp
                have HSc5 := Lib.hid ((hbn.block _ (lt_of_heap HSc4.out)).trans HSc4.out)
                have HAc5 := Lib.hid (N9.later HAc4.out hbn)
                have HOc5 := Lib.hid ((hbn.block _ (lt_of_heap HOc4.out)).trans HOc4.out)
                have HBc5 := Lib.hid (HBc4.out.trans (hbn.mono HBc4.out.size))
                refine hK.out _ _ (mkS.out _ HBc5.out) (fun hHeld2 => ?_)
                clear hK K hHeld
                have hHeld := hHeld2
                clear hHeld2
                clear hbn HBc4 HSc4 HAc4 HOc4
                try simp only [Act.put, List.setIfInBounds_toArray, List.set_cons_zero, List.set_cons_succ]
                refine wpAnyH_take (i := 6) (oi := ⟨some 71, _, _, _, _, _⟩) (v := ?_) rfl (by kernel_rfl) (by kernel_rfl) (by kernel_rfl) (fun _ _ _ h => by cases h.1) (Or.inl ⟨by rfl, by (intro w hSw; (try dsimp only at hSw); go_simp; try with_reducible rfl)⟩) hHeld ?_
                try simp only [Act.put, List.setIfInBounds_toArray, List.set_cons_zero, List.set_cons_succ]
                refine wpAnyH_take (i := 7) (oi := ⟨some 78, _, _, _, _, _⟩) (v := ?_) rfl (by kernel_rfl) (by kernel_rfl) (by kernel_rfl) (fun _ _ _ h => by cases h.1) (Or.inl ⟨by rfl, by (intro w hSw; (try dsimp only at hSw); go_simp; try with_reducible rfl)⟩) hHeld ?_
                try simp only [Act.put, List.setIfInBounds_toArray, List.set_cons_zero, List.set_cons_succ]
                refine wpAnyH_take (i := 8) (oi := ⟨some 79, _, _, _, _, _⟩) (v := ?_) rfl (by kernel_rfl) (by kernel_rfl) (by kernel_rfl) (fun _ _ _ h => by cases h.1) (Or.inl ⟨by rfl, by (intro w hSw; (try dsimp only at hSw); go_simp; try with_reducible rfl)⟩) hHeld ?_
                try simp only [Act.put, List.setIfInBounds_toArray, List.set_cons_zero, List.set_cons_succ]
                refine wpAnyH_take (i := 9) (oi := ⟨some 80, _, _, _, _, _⟩) (v := ?_) rfl (by kernel_rfl) (by kernel_rfl) (by kernel_rfl) (fun _ _ _ h => by cases h.1) (Or.inl ⟨by rfl, by (intro w hSw; (try dsimp only at hSw); go_simp; try with_reducible rfl)⟩) hHeld ?_
                try simp only [Act.put, List.setIfInBounds_toArray, List.set_cons_zero, List.set_cons_succ]
                refine wpAnyH_take (i := 10) (oi := ⟨some 81, _, _, _, _, _⟩) (v := ?_) rfl (by kernel_rfl) (by kernel_rfl) (by kernel_rfl) (fun _ _ _ h => by cases h.1) (Or.inl ⟨by rfl, by (intro w hSw; (try dsimp only at hSw); go_simp; try with_reducible rfl)⟩) hHeld ?_
                try simp only [Act.put, List.setIfInBounds_toArray, List.set_cons_zero, List.set_cons_succ]
                refine wpAnyH_ready (rs := [13]) (by kernel_rfl) (by simp) ?_
                refine AllReadyH.cons (o := ⟨none, _, _, _, _, _⟩) rfl (fun K hK => ?_) ?_
                · obtain ⟨⟨d0, d1, d2, d3, d4, d5, d6, d7, d8⟩, g0, g1, g2, g3, g4, g5, g6, g7, g8⟩ := nine HAc5.out
                  go_simp
                  have HAc6 := Lib.hid (N9.put HAc5.out (.int .u64 (e2 : Int)) (.int .u64 (v2 : Int)) (.int .u64 (n2 : Int)) (.int .u64 (x2 : Int)) (.string r2) (.bool o2) (.int .u64 (b2 : Int)) (.int .u64 (c2 : Int)) (.int .i64 t2))
                  have HOc6 := Lib.hid ((put_other (w := wc5) (g := gA) (q := gO) (Ne.symm HNE.out) (.int .u64 (e2 : Int)) (.int .u64 (v2 : Int)) (.int .u64 (n2 : Int)) (.int .u64 (x2 : Int)) (.string r2) (.bool o2) (.int .u64 (b2 : Int)) (.int .u64 (c2 : Int)) (.int .i64 t2)).trans HOc5.out)
                  have HBc6 := Lib.hid (set9 (g := gA) HGA.out HBc5.out (.int .u64 (e2 : Int)) (.int .u64 (v2 : Int)) (.int .u64 (n2 : Int)) (.int .u64 (x2 : Int)) (.string r2) (.bool o2) (.int .u64 (b2 : Int)) (.int .u64 (c2 : Int)) (.int .i64 t2))
                  refine hK.out _ _ (mkS.out _ HBc6.out) (fun hHeld2 => ?_)
                  clear hK K hHeld
                  have hHeld := hHeld2
                  clear hHeld2
                  clear HBc5 HSc5 HAc5 HOc5
                  clear d0 d1 d2 d3 d4 d5 d6 d7 d8 g0 g1 g2 g3 g4 g5 g6 g7 g8
                  try simp only [Act.put, List.setIfInBounds_toArray, List.set_cons_zero, List.set_cons_succ]
                  generalize (((((((((wc5.setCell ⟨gA, 0, none⟩ (.int .u64 (e2 : Int))).setCell ⟨gA, 1, none⟩ (.int .u64 (v2 : Int))).setCell ⟨gA, 2, none⟩ (.int .u64 (n2 : Int))).setCell ⟨gA, 3, none⟩ (.int .u64 (x2 : Int))).setCell ⟨gA, 4, none⟩ (.string r2)).setCell ⟨gA, 5, none⟩ (.bool o2)).setCell ⟨gA, 6, none⟩ (.int .u64 (b2 : Int))).setCell ⟨gA, 7, none⟩ (.int .u64 (c2 : Int))).setCell ⟨gA, 8, none⟩ (.int .i64 t2)) = wc6 at *
                  refine wpAnyH_ready (rs := [14]) (by kernel_rfl) (by simp) ?_
                  refine AllReadyH.cons (o := ⟨none, _, _, _, _, _⟩) rfl (fun K hK => ?_) ?_
                  · obtain ⟨⟨m0, m1, m2⟩, l0, l1, l2⟩ := three HOc6.out
                    go_simp
                    have HOc7 := Lib.hid (put3 HOc6.out (.int .u64 (ov : Int)) (.int .u64 (on : Int)) (.string ob))
                    have HAc7 := Lib.hid ((put3_other (w := wc6) (g := gO) (q := gA) HNE.out (.int .u64 (ov : Int)) (.int .u64 (on : Int)) (.string ob)).trans HAc6.out)
                    have HBc7 := Lib.hid (set3 (g := gO) HGO.out HBc6.out (.int .u64 (ov : Int)) (.int .u64 (on : Int)) (.string ob))
                    refine hK.out _ _ (mkS.out _ HBc7.out) (fun hHeld2 => ?_)
                    clear hK K hHeld
                    have hHeld := hHeld2
                    clear hHeld2
                    clear HBc6 HAc6 HOc6 m0 m1 m2 l0 l1 l2
                    try simp only [Act.put, List.setIfInBounds_toArray, List.set_cons_zero, List.set_cons_succ]
                    generalize (((wc6.setCell ⟨gO, 0, none⟩ (.int .u64 (ov : Int))).setCell ⟨gO, 1, none⟩ (.int .u64 (on : Int))).setCell ⟨gO, 2, none⟩ (.string ob)) = wc7 at *
                    refine wpAnyH_take (i := 15) (oi := ⟨some 17, _, _, _, _, _⟩) (v := ?_) rfl (by kernel_rfl) (by kernel_rfl) (by kernel_rfl) (fun _ _ _ h => by cases h.1) (Or.inl ⟨by rfl, by (intro w hSw; (try dsimp only at hSw); go_simp; try with_reducible rfl)⟩) hHeld ?_
                    try simp only [Act.put, List.setIfInBounds_toArray, List.set_cons_zero, List.set_cons_succ]
                    refine wpAnyH_take (i := 16) (oi := ⟨some 18, _, _, _, _, _⟩) (v := ?_) rfl (by kernel_rfl) (by kernel_rfl) (by kernel_rfl) (fun _ _ _ h => by cases h.1) (Or.inl ⟨by rfl, by (intro w hSw; (try dsimp only at hSw); go_simp; try with_reducible rfl)⟩) hHeld ?_
                    try simp only [Act.put, List.setIfInBounds_toArray, List.set_cons_zero, List.set_cons_succ]
                    refine wpAnyH_done (by kernel_rfl) ?_ _
                    exact ⟨rfl, gA, gO, ⟨rfl, HGA.out, HGO.out, HNE.out, HAc7.out, HOc7.out, HBc7.out⟩⟩
                  · exact AllReadyH.nil
                · exact AllReadyH.nil
              · exact AllReadyH.nil
            · exact AllReadyH.nil
        · refine AllReadyH.cons (o := ⟨some 16, _, _, _, _, _⟩) rfl (fun K hK => ?_) ?_
          · go_simp
            have hbn := alloc_below wc2 (.cells #[.int .u64 0, .int .u64 0, .string ⟨#[]⟩] 47)
            have HSc3 := Lib.hid ((hbn.block _ (lt_of_heap HSc2.out)).trans HSc2.out)
            have HAc3 := Lib.hid (N9.later HAc2.out hbn)
            have HOc3 := Lib.hid (heap_alloc_new wc2 (.cells #[.int .u64 0, .int .u64 0, .string ⟨#[]⟩] 47))
            have HBc3 := Lib.hid (HBc2.out.trans (hbn.mono HBc2.out.size))
            have HGO := Lib.hid HBc2.out.size
            have HNE : Hid (gA ≠ wc2.heap.size) := Lib.hid (Nat.ne_of_lt (lt_of_heap HAc2.out))
            refine hK.out _ _ (mkS.out _ HBc3.out) (fun hHeld2 => ?_)
            clear hK K hHeld
            have hHeld := hHeld2
            clear hHeld2
            clear hbn HBc2 HSc2 HAc2
            try simp only [Act.put, List.setIfInBounds_toArray, List.set_cons_zero, List.set_cons_succ]
            generalize wc2.alloc (.cells #[.int .u64 0, .int .u64 0, .string ⟨#[]⟩] 47) = wc3 at *
            generalize wc2.heap.size = gO at *
            refine wpAnyH_ready (rs := [4]) (by kernel_rfl) (by simp) ?_
            refine AllReadyH.cons (o := ⟨some 76, _, _, _, _, _⟩) rfl (fun K hK => ?_) ?_
            · go_simp
              refine (K7.out _ gS HSc3.out).mono ?_
              rintro ze wc4 ⟨rfl, hbn⟩
              try go_simp
              have HSc4 := Lib.hid ((hbn.block _ (lt_of_heap HSc3.out)).trans HSc3.out)
              have HAc4 := Lib.hid (N9.later HAc3.out hbn)
              have HOc4 := Lib.hid ((hbn.block _ (lt_of_heap HOc3.out)).trans HOc3.out)
              have HBc4 := Lib.hid (HBc3.out.trans (hbn.mono HBc3.out.size))
              refine hK.out _ _ (mkS.out _ HBc4.out) (fun hHeld2 => ?_)
              clear hK K hHeld
              have hHeld := hHeld2
              clear hHeld2
              clear hbn HBc3 HSc3 HAc3 HOc3
              try simp only [Act.put, List.setIfInBounds_toArray, List.set_cons_zero, List.set_cons_succ]
              refine wpAnyH_ready (rs := [5]) (by kernel_rfl) (by simp) ?_
              refine AllReadyH.cons (o := ⟨some 77, _, _, _, _, _⟩) rfl (fun K hK => ?_) ?_
              · go_simp
                refine (K14.out _).mono ?_
                rintro ze wc5 ⟨rfl, hbn⟩
                try go_simp
                have HSc5 := Lib.hid ((hbn.block _ (lt_of_heap HSc4.out)).trans HSc4.out)
                have HAc5 := Lib.hid (N9.later HAc4.out hbn)
                have HOc5 := Lib.hid ((hbn.block _ (lt_of_heap HOc4.out)).trans HOc4.out)
                have HBc5 := Lib.hid (HBc4.out.trans (hbn.mono HBc4.out.size))
                refine hK.out _ _ (mkS.out _ HBc5.out) (fun hHeld2 => ?_)
                clear hK K hHeld
                have hHeld := hHeld2
                clear hHeld2
                clear hbn HBc4 HSc4 HAc4 HOc4
                try simp only [Act.put, List.setIfInBounds_toArray, List.set_cons_zero, List.set_cons_succ]
                refine wpAnyH_take (i := 6) (oi := ⟨some 71, _, _, _, _, _⟩) (v := ?_) rfl (by kernel_rfl) (by kernel_rfl) (by kernel_rfl) (fun _ _ _ h => by cases h.1) (Or.inl ⟨by rfl, by (intro w hSw; (try dsimp only at hSw); go_simp; try with_reducible rfl)⟩) hHeld ?_
                try simp only [Act.put, List.setIfInBounds_toArray, List.set_cons_zero, List.set_cons_succ]
                refine wpAnyH_take (i := 7) (oi := ⟨some 78, _, _, _, _, _⟩) (v := ?_) rfl (by kernel_rfl) (by kernel_rfl) (by kernel_rfl) (fun _ _ _ h => by cases h.1) (Or.inl ⟨by rfl, by (intro w hSw; (try dsimp only at hSw); go_simp; try with_reducible rfl)⟩) hHeld ?_
                try simp only [Act.put, List.setIfInBounds_toArray, List.set_cons_zero, List.set_cons_succ]
                refine wpAnyH_take (i := 8) (oi := ⟨some 79, _, _, _, _, _⟩) (v := ?_) rfl (by kernel_rfl) (by kernel_rfl) (by kernel_rfl) (fun _ _ _ h => by cases h.1) (Or.inl ⟨by rfl, by (intro w hSw; (try dsimp only at hSw); go_simp; try with_reducible rfl)⟩) hHeld ?_
                try simp only [Act.put, List.setIfInBounds_toArray, List.set_cons_zero, List.set_cons_succ]
                refine wpAnyH_take (i := 9) (oi := ⟨some 80, _, _, _, _, _⟩) (v := ?_) rfl (by kernel_rfl) (by kernel_rfl) (by kernel_rfl) (fun _ _ _ h => by cases h.1) (Or.inl ⟨by rfl, by (intro w hSw; (try dsimp only at hSw); go_simp; try with_reducible rfl)⟩) hHeld ?_
                try simp only [Act.put, List.setIfInBounds_toArray, List.set_cons_zero, List.set_cons_succ]
                refine wpAnyH_take (i := 10) (oi := ⟨some 81, _, _, _, _, _⟩) (v := ?_) rfl (by kernel_rfl) (by kernel_rfl) (by kernel_rfl) (fun _ _ _ h => by cases h.1) (Or.inl ⟨by rfl, by (intro w hSw; (try dsimp only at hSw); go_simp; try with_reducible rfl)⟩) hHeld ?_
                try simp only [Act.put, List.setIfInBounds_toArray, List.set_cons_zero, List.set_cons_succ]
                refine wpAnyH_ready (rs := [13]) (by kernel_rfl) (by simp) ?_
                refine AllReadyH.cons (o := ⟨none, _, _, _, _, _⟩) rfl (fun K hK => ?_) ?_
                · obtain ⟨⟨d0, d1, d2, d3, d4, d5, d6, d7, d8⟩, g0, g1, g2, g3, g4, g5, g6, g7, g8⟩ := nine HAc5.out
                  go_simp
                  have HAc6 := Lib.hid (N9.put HAc5.out (.int .u64 (e2 : Int)) (.int .u64 (v2 : Int)) (.int .u64 (n2 : Int)) (.int .u64 (x2 : Int)) (.string r2) (.bool o2) (.int .u64 (b2 : Int)) (.int .u64 (c2 : Int)) (.int .i64 t2))
                  have HOc6 := Lib.hid ((put_other (w := wc5) (g := gA) (q := gO) (Ne.symm HNE.out) (.int .u64 (e2 : Int)) (.int .u64 (v2 : Int)) (.int .u64 (n2 : Int)) (.int .u64 (x2 : Int)) (.string r2) (.bool o2) (.int .u64 (b2 : Int)) (.int .u64 (c2 : Int)) (.int .i64 t2)).trans HOc5.out)
                  have HBc6 := Lib.hid (set9 (g := gA) HGA.out HBc5.out (.int .u64 (e2 : Int)) (.int .u64 (v2 : Int)) (.int .u64 (n2 : Int)) (.int .u64 (x2 : Int)) (.string r2) (.bool o2) (.int .u64 (b2 : Int)) (.int .u64 (c2 : Int)) (.int .i64 t2))
                  refine hK.out _ _ (mkS.out _ HBc6.out) (fun hHeld2 => ?_)
                  clear hK K hHeld
                  have hHeld := hHeld2
                  clear hHeld2
                  clear HBc5 HSc5 HAc5 HOc5
                  clear d0 d1 d2 d3 d4 d5 d6 d7 d8 g0 g1 g2 g3 g4 g5 g6 g7 g8
                  try simp only [Act.put, List.setIfInBounds_toArray, List.set_cons_zero, List.set_cons_succ]
                  generalize (((((((((wc5.setCell ⟨gA, 0, none⟩ (.int .u64 (e2 : Int))).setCell ⟨gA, 1, none⟩ (.int .u64 (v2 : Int))).setCell ⟨gA, 2, none⟩ (.int .u64 (n2 : Int))).setCell ⟨gA, 3, none⟩ (.int .u64 (x2 : Int))).setCell ⟨gA, 4, none⟩ (.string r2)).setCell ⟨gA, 5, none⟩ (.bool o2)).setCell ⟨gA, 6, none⟩ (.int .u64 (b2 : Int))).setCell ⟨gA, 7, none⟩ (.int .u64 (c2 : Int))).setCell ⟨gA, 8, none⟩ (.int .i64 t2)) = wc6 at *
                  refine wpAnyH_ready (rs := [14]) (by kernel_rfl) (by simp) ?_
                  refine AllReadyH.cons (o := ⟨none, _, _, _, _, _⟩) rfl (fun K hK => ?_) ?_
                  · obtain ⟨⟨m0, m1, m2⟩, l0, l1, l2⟩ := three HOc6.out
                    go_simp
                    have HOc7 := Lib.hid (put3 HOc6.out (.int .u64 (ov : Int)) (.int .u64 (on : Int)) (.string ob))
                    have HAc7 := Lib.hid ((put3_other (w := wc6) (g := gO) (q := gA) HNE.out (.int .u64 (ov : Int)) (.int .u64 (on : Int)) (.string ob)).trans HAc6.out)
                    have HBc7 := Lib.hid (set3 (g := gO) HGO.out HBc6.out (.int .u64 (ov : Int)) (.int .u64 (on : Int)) (.string ob))
                    refine hK.out _ _ (mkS.out _ HBc7.out) (fun hHeld2 => ?_)
                    clear hK K hHeld
                    have hHeld := hHeld2
                    clear hHeld2
                    clear HBc6 HAc6 HOc6 m0 m1 m2 l0 l1 l2
                    try simp only [Act.put, List.setIfInBounds_toArray, List.set_cons_zero, List.set_cons_succ]
                    generalize (((wc6.setCell ⟨gO, 0, none⟩ (.int .u64 (ov : Int))).setCell ⟨gO, 1, none⟩ (.int .u64 (on : Int))).setCell ⟨gO, 2, none⟩ (.string ob)) = wc7 at *
                    refine wpAnyH_take (i := 15) (oi := ⟨some 17, _, _, _, _, _⟩) (v := ?_) rfl (by kernel_rfl) (by kernel_rfl) (by kernel_rfl) (fun _ _ _ h => by cases h.1) (Or.inl ⟨by rfl, by (intro w hSw; (try dsimp only at hSw); go_simp; try with_reducible rfl)⟩) hHeld ?_
                    try simp only [Act.put, List.setIfInBounds_toArray, List.set_cons_zero, List.set_cons_succ]
                    refine wpAnyH_take (i := 16) (oi := ⟨some 18, _, _, _, _, _⟩) (v := ?_) rfl (by kernel_rfl) (by kernel_rfl) (by kernel_rfl) (fun _ _ _ h => by cases h.1) (Or.inl ⟨by rfl, by (intro w hSw; (try dsimp only at hSw); go_simp; try with_reducible rfl)⟩) hHeld ?_
                    try simp only [Act.put, List.setIfInBounds_toArray, List.set_cons_zero, List.set_cons_succ]
                    refine wpAnyH_done (by kernel_rfl) ?_ _
                    exact ⟨rfl, gA, gO, ⟨rfl, HGA.out, HGO.out, HNE.out, HAc7.out, HOc7.out, HBc7.out⟩⟩
                  · exact AllReadyH.nil
                · exact AllReadyH.nil
              · exact AllReadyH.nil
            · exact AllReadyH.nil
          · exact AllReadyH.nil
      · refine AllReadyH.cons (o := ⟨some 16, _, _, _, _, _⟩) rfl (fun K hK => ?_) ?_
        · go_simp
          have hbn := alloc_below wc1 (.cells #[.int .u64 0, .int .u64 0, .string ⟨#[]⟩] 47)
          have HAc2 := Lib.hid (N9.later HAc1.out hbn)
          have HOc2 := Lib.hid (heap_alloc_new wc1 (.cells #[.int .u64 0, .int .u64 0, .string ⟨#[]⟩] 47))
          have HBc2 := Lib.hid (HBc1.out.trans (hbn.mono HBc1.out.size))
          have HGO := Lib.hid HBc1.out.size
          have HNE : Hid (gA ≠ wc1.heap.size) := Lib.hid (Nat.ne_of_lt (lt_of_heap HAc1.out))
          refine hK.out _ _ (mkS.out _ HBc2.out) (fun hHeld2 => ?_)
          clear hK K hHeld
          have hHeld := hHeld2
          clear hHeld2
          clear hbn HBc1 HAc1
          try simp only [Act.put, List.setIfInBounds_toArray, List.set_cons_zero, List.set_cons_succ]
          generalize wc1.alloc (.cells #[.int .u64 0, .int .u64 0, .string ⟨#[]⟩] 47) = wc2 at *
          generalize wc1.heap.size = gO at *
          refine wpAnyH_ready (rs := [3]) (by kernel_rfl) (by simp) ?_
          refine AllReadyH.cons (o := ⟨some 75, _, _, _, _, _⟩) rfl (fun K hK => ?_) ?_
          · go_simp
            have hbn := alloc_below wc2 (.cells #[.int .u64 1, .int .u64 1] 22)
            have HAc3 := Lib.hid (N9.later HAc2.out hbn)
            have HOc3 := Lib.hid ((hbn.block _ (lt_of_heap HOc2.out)).trans HOc2.out)
            have HSc3 := Lib.hid (heap_alloc_new wc2 (.cells #[.int .u64 1, .int .u64 1] 22))
            have HBc3 := Lib.hid (HBc2.out.trans (hbn.mono HBc2.out.size))
            refine hK.out _ _ (mkS.out _ HBc3.out) (fun hHeld2 => ?_)
            clear hK K hHeld
            have hHeld := hHeld2
            clear hHeld2
            clear hbn HBc2 HAc2 HOc2
            try simp only [Act.put, List.setIfInBounds_toArray, List.set_cons_zero, List.set_cons_succ]
            generalize wc2.alloc (.cells #[.int .u64 1, .int .u64 1] 22) = wc3 at *
            generalize wc2.heap.size = gS at *
            refine wpAnyH_ready (rs := [4]) (by kernel_rfl) (by simp) ?_
            refine AllReadyH.cons (o := ⟨some 76, _, _, _, _, _⟩) rfl (fun K hK => ?_) ?_
            · go_simp
              refine (K7.out _ gS HSc3.out).mono ?_
              rintro ze wc4 ⟨rfl, hbn⟩
              try go_simp
              have HSc4 := Lib.hid ((hbn.block _ (lt_of_heap HSc3.out)).trans HSc3.out)
              have HAc4 := Lib.hid (N9.later HAc3.out hbn)
              have HOc4 := Lib.hid ((hbn.block _ (lt_of_heap HOc3.out)).trans HOc3.out)
              have HBc4 := Lib.hid (HBc3.out.trans (hbn.mono HBc3.out.size))
              refine hK.out _ _ (mkS.out _ HBc4.out) (fun hHeld2 => ?_)
              clear hK K hHeld
              have hHeld := hHeld2
              clear hHeld2
              clear hbn HBc3 HSc3 HAc3 HOc3
              try simp only [Act.put, List.setIfInBounds_toArray, List.set_cons_zero, List.set_cons_succ]
              refine wpAnyH_ready (rs := [5]) (by kernel_rfl) (by simp) ?_
              refine AllReadyH.cons (o := ⟨some 77, _, _, _, _, _⟩) rfl (fun K hK => ?_) ?_
              · go_simp
                refine (K14.out _).mono ?_
                rintro ze wc5 ⟨rfl, hbn⟩
                try go_simp
                have HSc5 := Lib.hid ((hbn.block _ (lt_of_heap HSc4.out)).trans HSc4.out)
                have HAc5 := Lib.hid (N9.later HAc4.out hbn)
                have HOc5 := Lib.hid ((hbn.block _ (lt_of_heap HOc4.out)).trans HOc4.out)
                have HBc5 := Lib.hid (HBc4.out.trans (hbn.mono HBc4.out.size))
                refine hK.out _ _ (mkS.out _ HBc5.out) (fun hHeld2 => ?_)
                clear hK K hHeld
                have hHeld := hHeld2
                clear hHeld2
                clear hbn HBc4 HSc4 HAc4 HOc4
                try simp only [Act.put, List.setIfInBounds_toArray, List.set_cons_zero, List.set_cons_succ]
                refine wpAnyH_take (i := 6) (oi := ⟨some 71, _, _, _, _, _⟩) (v := ?_) rfl (by kernel_rfl) (by kernel_rfl) (by kernel_rfl) (fun _ _ _ h => by cases h.1) (Or.inl ⟨by rfl, by (intro w hSw; (try dsimp only at hSw); go_simp; try with_reducible rfl)⟩) hHeld ?_
                try simp only [Act.put, List.setIfInBounds_toArray, List.set_cons_zero, List.set_cons_succ]
                refine wpAnyH_take (i := 7) (oi := ⟨some 78, _, _, _, _, _⟩) (v := ?_) rfl (by kernel_rfl) (by kernel_rfl) (by kernel_rfl) (fun _ _ _ h => by cases h.1) (Or.inl ⟨by rfl, by (intro w hSw; (try dsimp only at hSw); go_simp; try with_reducible rfl)⟩) hHeld ?_
                try simp only [Act.put, List.setIfInBounds_toArray, List.set_cons_zero, List.set_cons_succ]
                refine wpAnyH_take (i := 8) (oi := ⟨some 79, _, _, _, _, _⟩) (v := ?_) rfl (by kernel_rfl) (by kernel_rfl) (by kernel_rfl) (fun _ _ _ h => by cases h.1) (Or.inl ⟨by rfl, by (intro w hSw; (try dsimp only at hSw); go_simp; try with_reducible rfl)⟩) hHeld ?_
                try simp only [Act.put, List.setIfInBounds_toArray, List.set_cons_zero, List.set_cons_succ]
                refine wpAnyH_take (i := 9) (oi := ⟨some 80, _, _, _, _, _⟩) (v := ?_) rfl (by kernel_rfl) (by kernel_rfl) (by kernel_rfl) (fun _ _ _ h => by cases h.1) (Or.inl ⟨by rfl, by (intro w hSw; (try dsimp only at hSw); go_simp; try with_reducible rfl)⟩) hHeld ?_
                try simp only [Act.put, List.setIfInBounds_toArray, List.set_cons_zero, List.set_cons_succ]
                refine wpAnyH_take (i := 10) (oi := ⟨some 81, _, _, _, _, _⟩) (v := ?_) rfl (by kernel_rfl) (by kernel_rfl) (by kernel_rfl) (fun _ _ _ h => by cases h.1) (Or.inl ⟨by rfl, by (intro w hSw; (try dsimp only at hSw); go_simp; try with_reducible rfl)⟩) hHeld ?_
                try simp only [Act.put, List.setIfInBounds_toArray, List.set_cons_zero, List.set_cons_succ]
                refine wpAnyH_ready (rs := [13]) (by kernel_rfl) (by simp) ?_
                refine AllReadyH.cons (o := ⟨none, _, _, _, _, _⟩) rfl (fun K hK => ?_) ?_
                · obtain ⟨⟨d0, d1, d2, d3, d4, d5, d6, d7, d8⟩, g0, g1, g2, g3, g4, g5, g6, g7, g8⟩ := nine HAc5.out
                  go_simp
                  have HAc6 := Lib.hid (N9.put HAc5.out (.int .u64 (e2 : Int)) (.int .u64 (v2 : Int)) (.int .u64 (n2 : Int)) (.int .u64 (x2 : Int)) (.string r2) (.bool o2) (.int .u64 (b2 : Int)) (.int .u64 (c2 : Int)) (.int .i64 t2))
                  have HOc6 := Lib.hid ((put_other (w := wc5) (g := gA) (q := gO) (Ne.symm HNE.out) (.int .u64 (e2 : Int)) (.int .u64 (v2 : Int)) (.int .u64 (n2 : Int)) (.int .u64 (x2 : Int)) (.string r2) (.bool o2) (.int .u64 (b2 : Int)) (.int .u64 (c2 : Int)) (.int .i64 t2)).trans HOc5.out)
                  have HBc6 := Lib.hid (set9 (g := gA) HGA.out HBc5.out (.int .u64 (e2 : Int)) (.int .u64 (v2 : Int)) (.int .u64 (n2 : Int)) (.int .u64 (x2 : Int)) (.string r2) (.bool o2) (.int .u64 (b2 : Int)) (.int .u64 (c2 : Int)) (.int .i64 t2))
                  refine hK.out _ _ (mkS.out _ HBc6.out) (fun hHeld2 => ?_)
                  clear hK K hHeld
                  have hHeld := hHeld2
                  clear hHeld2
                  clear HBc5 HSc5 HAc5 HOc5
                  clear d0 d1 d2 d3 d4 d5 d6 d7 d8 g0 g1 g2 g3 g4 g5 g6 g7 g8
                  try simp only [Act.put, List.setIfInBounds_toArray, List.set_cons_zero, List.set_cons_succ]
                  generalize (((((((((wc5.setCell ⟨gA, 0, none⟩ (.int .u64 (e2 : Int))).setCell ⟨gA, 1, none⟩ (.int .u64 (v2 : Int))).setCell ⟨gA, 2, none⟩ (.int .u64 (n2 : Int))).setCell ⟨gA, 3, none⟩ (.int .u64 (x2 : Int))).setCell ⟨gA, 4, none⟩ (.string r2)).setCell ⟨gA, 5, none⟩ (.bool o2)).setCell ⟨gA, 6, none⟩ (.int .u64 (b2 : Int))).setCell ⟨gA, 7, none⟩ (.int .u64 (c2 : Int))).setCell ⟨gA, 8, none⟩ (.int .i64 t2)) = wc6 at *
                  refine wpAnyH_ready (rs := [14]) (by kernel_rfl) (by simp) ?_
                  refine AllReadyH.cons (o := ⟨none, _, _, _, _, _⟩) rfl (fun K hK => ?_) ?_
                  · obtain ⟨⟨m0, m1, m2⟩, l0, l1, l2⟩ := three HOc6.out
                    go_simp
                    have HOc7 := Lib.hid (put3 HOc6.out (.int .u64 (ov : Int)) (.int .u64 (on : Int)) (.string ob))
                    have HAc7 := Lib.hid ((put3_other (w := wc6) (g := gO) (q := gA) HNE.out (.int .u64 (ov : Int)) (.int .u64 (on : Int)) (.string ob)).trans HAc6.out)
                    have HBc7 := Lib.hid (set3 (g := gO) HGO.out HBc6.out (.int .u64 (ov : Int)) (.int .u64 (on : Int)) (.string ob))
                    refine hK.out _ _ (mkS.out _ HBc7.out) (fun hHeld2 => ?_)
                    clear hK K hHeld
                    have hHeld := hHeld2
                    clear hHeld2
                    clear HBc6 HAc6 HOc6 m0 m1 m2 l0 l1 l2
                    try simp only [Act.put, List.setIfInBounds_toArray, List.set_cons_zero, List.set_cons_succ]
                    generalize (((wc6.setCell ⟨gO, 0, none⟩ (.int .u64 (ov : Int))).setCell ⟨gO, 1, none⟩ (.int .u64 (on : Int))).setCell ⟨gO, 2, none⟩ (.string ob)) = wc7 at *
                    refine wpAnyH_take (i := 15) (oi := ⟨some 17, _, _, _, _, _⟩) (v := ?_) rfl (by kernel_rfl) (by kernel_rfl) (by kernel_rfl) (fun _ _ _ h => by cases h.1) (Or.inl ⟨by rfl, by (intro w hSw; (try dsimp only at hSw); go_simp; try with_reducible rfl)⟩) hHeld ?_
                    try simp only [Act.put, List.setIfInBounds_toArray, List.set_cons_zero, List.set_cons_succ]
                    refine wpAnyH_take (i := 16) (oi := ⟨some 18, _, _, _, _, _⟩) (v := ?_) rfl (by kernel_rfl) (by kernel_rfl) (by kernel_rfl) (fun _ _ _ h => by cases h.1) (Or.inl ⟨by rfl, by (intro w hSw; (try dsimp only at hSw); go_simp; try with_reducible rfl)⟩) hHeld ?_
                    try simp only [Act.put, List.setIfInBounds_toArray, List.set_cons_zero, List.set_cons_succ]
                    refine wpAnyH_done (by kernel_rfl) ?_ _
                    exact ⟨rfl, gA, gO, ⟨rfl, HGA.out, HGO.out, HNE.out, HAc7.out, HOc7.out, HBc7.out⟩⟩
                  · exact AllReadyH.nil
                · exact AllReadyH.nil
              · exact AllReadyH.nil
            · exact AllReadyH.nil
          · exact AllReadyH.nil
        · exact AllReadyH.nil
    · refine AllReadyH.cons (o := ⟨some 16, _, _, _, _, _⟩) rfl (fun K hK => ?_) ?_
      · go_simp
        have hbn := alloc_below wc0 (.cells #[.int .u64 0, .int .u64 0, .string ⟨#[]⟩] 47)
        have HOc1 := Lib.hid (heap_alloc_new wc0 (.cells #[.int .u64 0, .int .u64 0, .string ⟨#[]⟩] 47))
        have HBc1 := Lib.hid (HB0.out.trans (hbn.mono HB0.out.size))
        have HGO := Lib.hid HB0.out.size
        refine hK.out _ _ (mkS.out _ HBc1.out) (fun hHeld2 => ?_)
        clear hK K hHeld
        have hHeld := hHeld2
        clear hHeld2
        clear hbn HB0
        try simp only [Act.put, List.setIfInBounds_toArray, List.set_cons_zero, List.set_cons_succ]
        generalize wc0.alloc (.cells #[.int .u64 0, .int .u64 0, .string ⟨#[]⟩] 47) = wc1 at *
        generalize wc0.heap.size = gO at *
        refine wpAnyH_ready (rs := [3, 11]) (by kernel_rfl) (by simp) ?_
        refine AllReadyH.cons (o := ⟨some 75, _, _, _, _, _⟩) rfl (fun K hK => ?_) ?_
        · go_simp
          have hbn := alloc_below wc1 (.cells #[.int .u64 1, .int .u64 1] 22)
          have HOc2 := Lib.hid ((hbn.block _ (lt_of_heap HOc1.out)).trans HOc1.out)
          have HSc2 := Lib.hid (heap_alloc_new wc1 (.cells #[.int .u64 1, .int .u64 1] 22))
          have HBc2 := Lib.hid (HBc1.out.trans (hbn.mono HBc1.out.size))
          refine hK.out _ _ (mkS.out _ HBc2.out) (fun hHeld2 => ?_)
          clear hK K hHeld
          have hHeld := hHeld2
          clear hHeld2
          clear hbn HBc1 HOc1
          try simp only [Act.put, List.setIfInBounds_toArray, List.set_cons_zero, List.set_cons_succ]
          generalize wc1.alloc (.cells #[.int .u64 1, .int .u64 1] 22) = wc2 at *
          generalize wc1.heap.size = gS at *
          refine wpAnyH_ready (rs := [4, 11]) (by kernel_rfl) (by simp) ?_
          refine AllReadyH.cons (o := ⟨some 76, _, _, _, _, _⟩) rfl (fun K hK => ?_) ?_
          · go_simp
            refine (K7.out _ gS HSc2.out).mono ?_
            rintro ze wc3 ⟨rfl, hbn⟩
            try go_simp
            have HSc3 := Lib.hid ((hbn.block _ (lt_of_heap HSc2.out)).trans HSc2.out)
            have HOc3 := Lib.hid ((hbn.block _ (lt_of_heap HOc2.out)).trans HOc2.out)
            have HBc3 := Lib.hid (HBc2.out.trans (hbn.mono HBc2.out.size))
            refine hK.out _ _ (mkS.out _ HBc3.out) (fun hHeld2 => ?_)
            clear hK K hHeld
            have hHeld := hHeld2
            clear hHeld2
            clear hbn HBc2 HSc2 HOc2
            try simp only [Act.put, List.setIfInBounds_toArray, List.set_cons_zero, List.set_cons_succ]
            refine wpAnyH_ready (rs := [5, 11]) (by kernel_rfl) (by simp) ?_
            refine AllReadyH.cons (o := ⟨some 77, _, _, _, _, _⟩) rfl (fun K hK => ?_) ?_
            · go_simp
              refine (K14.out _).mono ?_
              rintro ze wc4 ⟨rfl, hbn⟩
              try go_simp
              have HSc4 := Lib.hid ((hbn.block _ (lt_of_heap HSc3.out)).trans HSc3.out)
              have HOc4 := Lib.hid ((hbn.block _ (lt_of_heap HOc3.out)).trans HOc3.out)
              have HBc4 := Lib.hid (HBc3.out.trans (hbn.mono HBc3.out.size))
              refine hK.out _ _ (mkS.out _ HBc4.out) (fun hHeld2 => ?_)
              clear hK K hHeld
              have hHeld := hHeld2
              clear hHeld2
              clear hbn HBc3 HSc3 HOc3
              try simp only [Act.put, List.setIfInBounds_toArray, List.set_cons_zero, List.set_cons_succ]
              refine wpAnyH_take (i := 6) (oi := ⟨some 71, _, _, _, _, _⟩) (v := ?_) rfl (by kernel_rfl) (by kernel_rfl) (by kernel_rfl) (fun _ _ _ h => by cases h.1) (Or.inl ⟨by rfl, by (intro w hSw; (try dsimp only at hSw); go_simp; try with_reducible rfl)⟩) hHeld ?_
              try simp only [Act.put, List.setIfInBounds_toArray, List.set_cons_zero, List.set_cons_succ]
              refine wpAnyH_take (i := 7) (oi := ⟨some 78, _, _, _, _, _⟩) (v := ?_) rfl (by kernel_rfl) (by kernel_rfl) (by kernel_rfl) (fun _ _ _ h => by cases h.1) (Or.inl ⟨by rfl, by (intro w hSw; (try dsimp only at hSw); go_simp; try with_reducible rfl)⟩) hHeld ?_
              try simp only [Act.put, List.setIfInBounds_toArray, List.set_cons_zero, List.set_cons_succ]
              refine wpAnyH_take (i := 8) (oi := ⟨some 79, _, _, _, _, _⟩) (v := ?_) rfl (by kernel_rfl) (by kernel_rfl) (by kernel_rfl) (fun _ _ _ h => by cases h.1) (Or.inl ⟨by rfl, by (intro w hSw; (try dsimp only at hSw); go_simp; try with_reducible rfl)⟩) hHeld ?_
              try simp only [Act.put, List.setIfInBounds_toArray, List.set_cons_zero, List.set_cons_succ]
              refine wpAnyH_take (i := 9) (oi := ⟨some 80, _, _, _, _, _⟩) (v := ?_) rfl (by kernel_rfl) (by kernel_rfl) (by kernel_rfl) (fun _ _ _ h => by cases h.1) (Or.inl ⟨by rfl, by (intro w hSw; (try dsimp only at hSw); go_simp; try with_reducible rfl)⟩) hHeld ?_
              try simp only [Act.put, List.setIfInBounds_toArray, List.set_cons_zero, List.set_cons_succ]
              refine wpAnyH_take (i := 10) (oi := ⟨some 81, _, _, _, _, _⟩) (v := ?_) rfl (by kernel_rfl) (by kernel_rfl) (by kernel_rfl) (fun _ _ _ h => by cases h.1) (Or.inl ⟨by rfl, by (intro w hSw; (try dsimp only at hSw); go_simp; try with_reducible rfl)⟩) hHeld ?_
              try simp only [Act.put, List.setIfInBounds_toArray, List.set_cons_zero, List.set_cons_succ]
              refine wpAnyH_ready (rs := [11]) (by kernel_rfl) (by simp) ?_
              refine AllReadyH.cons (o := ⟨some 15, _, _, _, _, _⟩) rfl (fun K hK => ?_) ?_
              · go_simp
                have hbn := alloc_below wc4 (.cells #[.int .u64 0, .int .u64 0, .int .u64 0, .int .u64 0, .string ⟨#[]⟩, .bool false, .int .u64 0, .int .u64 0, .int .i64 0] 39)
                have HSc5 := Lib.hid ((hbn.block _ (lt_of_heap HSc4.out)).trans HSc4.out)
                have HOc5 := Lib.hid ((hbn.block _ (lt_of_heap HOc4.out)).trans HOc4.out)
                have HAc5 : Hid (N9 (wc4.alloc (.cells #[.int .u64 0, .int .u64 0, .int .u64 0, .int .u64 0, .string ⟨#[]⟩, .bool false, .int .u64 0, .int .u64 0, .int .i64 0] 39)) wc4.heap.size (.int .u64 0) (.int .u64 0) (.int .u64 0) (.int .u64 0) (.string ⟨#[]⟩) (.bool false) (.int .u64 0) (.int .u64 0) (.int .i64 0)) := Lib.hid (heap_alloc_new wc4 _)
                have HBc5 := Lib.hid (HBc4.out.trans (hbn.mono HBc4.out.size))
                have HGA := Lib.hid HBc4.out.size
                have HNE : Hid (wc4.heap.size ≠ gO) := Lib.hid (Ne.symm (Nat.ne_of_lt (lt_of_heap HOc4.out)))
                refine hK.out _ _ (mkS.out _ HBc5.out) (fun hHeld2 => ?_)
                clear hK K hHeld
                have hHeld := hHeld2
                clear hHeld2
                clear hbn HBc4 HSc4 HOc4
                try simp only [Act.put, List.setIfInBounds_toArray, List.set_cons_zero, List.set_cons_succ]
                generalize wc4.alloc (.cells #[.int .u64 0, .int .u64 0, .int .u64 0, .int .u64 0, .string ⟨#[]⟩, .bool false, .int .u64 0, .int .u64 0, .int .i64 0] 39) = wc5 at *
                generalize wc4.heap.size = gA at *
                refine wpAnyH_ready (rs := [13]) (by kernel_rfl) (by simp) ?_
                refine AllReadyH.cons (o := ⟨none, _, _, _, _, _⟩) rfl (fun K hK => ?_) ?_
                · obtain ⟨⟨d0, d1, d2, d3, d4, d5, d6, d7, d8⟩, g0, g1, g2, g3, g4, g5, g6, g7, g8⟩ := nine HAc5.out
                  go_simp
                  have HAc6 := Lib.hid (N9.put HAc5.out (.int .u64 (e2 : Int)) (.int .u64 (v2 : Int)) (.int .u64 (n2 : Int)) (.int .u64 (x2 : Int)) (.string r2) (.bool o2) (.int .u64 (b2 : Int)) (.int .u64 (c2 : Int)) (.int .i64 t2))
                  have HOc6 := Lib.hid ((put_other (w := wc5) (g := gA) (q := gO) (Ne.symm HNE.out) (.int .u64 (e2 : Int)) (.int .u64 (v2 : Int)) (.int .u64 (n2 : Int)) (.int .u64 (x2 : Int)) (.string r2) (.bool o2) (.int .u64 (b2 : Int)) (.int .u64 (c2 : Int)) (.int .i64 t2)).trans HOc5.out)
                  have HBc6 := Lib.hid (set9 (g := gA) HGA.out HBc5.out (.int .u64 (e2 : Int)) (.int .u64 (v2 : Int)) (.int .u64 (n2 : Int)) (.int .u64 (x2 : Int)) (.string r2) (.bool o2) (.int .u64 (b2 : Int)) (.int .u64 (c2 : Int)) (.int .i64 t2))
                  refine hK.out _ _ (mkS.out _ HBc6.out) (fun hHeld2 => ?_)
                  clear hK K hHeld
                  have hHeld := hHeld2
                  clear hHeld2
                  clear HBc5 HSc5 HAc5 HOc5
                  clear d0 d1 d2 d3 d4 d5 d6 d7 d8 g0 g1 g2 g3 g4 g5 g6 g7 g8
                  try simp only [Act.put, List.setIfInBounds_toArray, List.set_cons_zero, List.set_cons_succ]
                  generalize (((((((((wc5.setCell ⟨gA, 0, none⟩ (.int .u64 (e2 : Int))).setCell ⟨gA, 1, none⟩ (.int .u64 (v2 : Int))).setCell ⟨gA, 2, none⟩ (.int .u64 (n2 : Int))).setCell ⟨gA, 3, none⟩ (.int .u64 (x2 : Int))).setCell ⟨gA, 4, none⟩ (.string r2)).setCell ⟨gA, 5, none⟩ (.bool o2)).setCell ⟨gA, 6, none⟩ (.int .u64 (b2 : Int))).setCell ⟨gA, 7, none⟩ (.int .u64 (c2 : Int))).setCell ⟨gA, 8, none⟩ (.int .i64 t2)) = wc6 at *
                  refine wpAnyH_ready (rs := [14]) (by kernel_rfl) (by simp) ?_
                  refine AllReadyH.cons (o := ⟨none, _, _, _, _, _⟩) rfl (fun K hK => ?_) ?_
                  · obtain ⟨⟨m0, m1, m2⟩, l0, l1, l2⟩ := three HOc6.out
                    go_simp
                    have HOc7 := Lib.hid (put3 HOc6.out (.int .u64 (ov : Int)) (.int .u64 (on : Int)) (.string ob))
                    have HAc7 := Lib.hid ((put3_other (w := wc6) (g := gO) (q := gA) HNE.out (.int .u64 (ov : Int)) (.int .u64 (on : Int)) (.string ob)).trans HAc6.out)
                    have HBc7 := Lib.hid (set3 (g := gO) HGO.out HBc6.out (.int .u64 (ov : Int)) (.int .u64 (on : Int)) (.string ob))
                    refine hK.out _ _ (mkS.out _ HBc7.out) (fun hHeld2 => ?_)
                    clear hK K hHeld
                    have hHeld := hHeld2
                    clear hHeld2
                    clear HBc6 HAc6 HOc6 m0 m1 m2 l0 l1 l2
                    try simp only [Act.put, List.setIfInBounds_toArray, List.set_cons_zero, List.set_cons_succ]
                    generalize (((wc6.setCell ⟨gO, 0, none⟩ (.int .u64 (ov : Int))).setCell ⟨gO, 1, none⟩ (.int .u64 (on : Int))).setCell ⟨gO, 2, none⟩ (.string ob)) = wc7 at *
                    refine wpAnyH_take (i := 15) (oi := ⟨some 17, _, _, _, _, _⟩) (v := ?_) rfl (by kernel_rfl) (by kernel_rfl) (by kernel_rfl) (fun _ _ _ h => by cases h.1) (Or.inl ⟨by rfl, by (intro w hSw; (try dsimp only at hSw); go_simp; try with_reducible rfl)⟩) hHeld ?_
                    try simp only [Act.put, List.setIfInBounds_toArray, List.set_cons_zero, List.set_cons_succ]
                    refine wpAnyH_take (i := 16) (oi := ⟨some 18, _, _, _, _, _⟩) (v := ?_) rfl (by kernel_rfl) (by kernel_rfl) (by kernel_rfl) (fun _ _ _ h => by cases h.1) (Or.inl ⟨by rfl, by (intro w hSw; (try dsimp only at hSw); go_simp; try with_reducible rfl)⟩) hHeld ?_
                    try simp only [Act.put, List.setIfInBounds_toArray, List.set_cons_zero, List.set_cons_succ]
                    refine wpAnyH_done (by kernel_rfl) ?_ _
                    exact ⟨rfl, gA, gO, ⟨rfl, HGA.out, HGO.out, HNE.out, HAc7.out, HOc7.out, HBc7.out⟩⟩
                  · exact AllReadyH.nil
                · exact AllReadyH.nil
              · exact AllReadyH.nil
            · refine AllReadyH.cons (o := ⟨some 15, _, _, _, _, _⟩) rfl (fun K hK => ?_) ?_
              · go_simp
                have hbn := alloc_below wc3 (.cells #[.int .u64 0, .int .u64 0, .int .u64 0, .int .u64 0, .string ⟨#[]⟩, .bool false, .int .u64 0, .int .u64 0, .int .i64 0] 39)
                have HSc4 := Lib.hid ((hbn.block _ (lt_of_heap HSc3.out)).trans HSc3.out)
                have HOc4 := Lib.hid ((hbn.block _ (lt_of_heap HOc3.out)).trans HOc3.out)
                have HAc4 : Hid (N9 (wc3.alloc (.cells #[.int .u64 0, .int .u64 0, .int .u64 0, .int .u64 0, .string ⟨#[]⟩, .bool false, .int .u64 0, .int .u64 0, .int .i64 0] 39)) wc3.heap.size (.int .u64 0) (.int .u64 0) (.int .u64 0) (.int .u64 0) (.string ⟨#[]⟩) (.bool false) (.int .u64 0) (.int .u64 0) (.int .i64 0)) := Lib.hid (heap_alloc_new wc3 _)
                have HBc4 := Lib.hid (HBc3.out.trans (hbn.mono HBc3.out.size))
                have HGA := Lib.hid HBc3.out.size
                have HNE : Hid (wc3.heap.size ≠ gO) := Lib.hid (Ne.symm (Nat.ne_of_lt (lt_of_heap HOc3.out)))
                refine hK.out _ _ (mkS.out _ HBc4.out) (fun hHeld2 => ?_)
                clear hK K hHeld
                have hHeld := hHeld2
                clear hHeld2
                clear hbn HBc3 HSc3 HOc3
                try simp only [Act.put, List.setIfInBounds_toArray, List.set_cons_zero, List.set_cons_succ]
                generalize wc3.alloc (.cells #[.int .u64 0, .int .u64 0, .int .u64 0, .int .u64 0, .string ⟨#[]⟩, .bool false, .int .u64 0, .int .u64 0, .int .i64 0] 39) = wc4 at *
                generalize wc3.heap.size = gA at *
                refine wpAnyH_ready (rs := [5]) (by kernel_rfl) (by simp) ?_
                refine AllReadyH.cons (o := ⟨some 77, _, _, _, _, _⟩) rfl (fun K hK => ?_) ?_
                · go_simp
                  refine (K14.out _).mono ?_
                  rintro ze wc5 ⟨rfl, hbn⟩
                  try go_simp
                  have HSc5 := Lib.hid ((hbn.block _ (lt_of_heap HSc4.out)).trans HSc4.out)
                  have HAc5 := Lib.hid (N9.later HAc4.out hbn)
                  have HOc5 := Lib.hid ((hbn.block _ (lt_of_heap HOc4.out)).trans HOc4.out)
                  have HBc5 := Lib.hid (HBc4.out.trans (hbn.mono HBc4.out.size))
                  refine hK.out _ _ (mkS.out _ HBc5.out) (fun hHeld2 => ?_)
                  clear hK K hHeld
                  have hHeld := hHeld2
                  clear hHeld2
                  clear hbn HBc4 HSc4 HAc4 HOc4
                  try simp only [Act.put, List.setIfInBounds_toArray, List.set_cons_zero, List.set_cons_succ]
                  refine wpAnyH_take (i := 6) (oi := ⟨some 71, _, _, _, _, _⟩) (v := ?_) rfl (by kernel_rfl) (by kernel_rfl) (by kernel_rfl) (fun _ _ _ h => by cases h.1) (Or.inl ⟨by rfl, by (intro w hSw; (try dsimp only at hSw); go_simp; try with_reducible rfl)⟩) hHeld ?_
                  try simp only [Act.put, List.setIfInBounds_toArray, List.set_cons_zero, List.set_cons_succ]
                  refine wpAnyH_take (i := 7) (oi := ⟨some 78, _, _, _, _, _⟩) (v := ?_) rfl (by kernel_rfl) (by kernel_rfl) (by kernel_rfl) (fun _ _ _ h => by cases h.1) (Or.inl ⟨by rfl, by (intro w hSw; (try dsimp only at hSw); go_simp; try with_reducible rfl)⟩) hHeld ?_
                  try simp only [Act.put, List.setIfInBounds_toArray, List.set_cons_zero, List.set_cons_succ]
                  refine wpAnyH_take (i := 8) (oi := ⟨some 79, _, _, _, _, _⟩) (v := ?_) rfl (by kernel_rfl) (by kernel_rfl) (by kernel_rfl) (fun _ _ _ h => by cases h.1) (Or.inl ⟨by rfl, by (intro w hSw; (try dsimp only at hSw); go_simp; try with_reducible rfl)⟩) hHeld ?_
                  try simp only [Act.put, List.setIfInBounds_toArray, List.set_cons_zero, List.set_cons_succ]
                  refine wpAnyH_take (i := 9) (oi := ⟨some 80, _, _, _, _, _⟩) (v := ?_) rfl (by kernel_rfl) (by kernel_rfl) (by kernel_rfl) (fun _ _ _ h => by cases h.1) (Or.inl ⟨by rfl, by (intro w hSw; (try dsimp only at hSw); go_simp; try with_reducible rfl)⟩) hHeld ?_
                  try simp only [Act.put, List.setIfInBounds_toArray, List.set_cons_zero, List.set_cons_succ]
                  refine wpAnyH_take (i := 10) (oi := ⟨some 81, _, _, _, _, _⟩) (v := ?_) rfl (by kernel_rfl) (by kernel_rfl) (by kernel_rfl) (fun _ _ _ h => by cases h.1) (Or.inl ⟨by rfl, by (intro w hSw; (try dsimp only at hSw); go_simp; try with_reducible rfl)⟩) hHeld ?_
                  try simp only [Act.put, List.setIfInBounds_toArray, List.set_cons_zero, List.set_cons_succ]
                  refine wpAnyH_ready (rs := [13]) (by kernel_rfl) (by simp) ?_
                  refine AllReadyH.cons (o := ⟨none, _, _, _, _, _⟩) rfl (fun K hK => ?_) ?_
                  · obtain ⟨⟨d0, d1, d2, d3, d4, d5, d6, d7, d8⟩, g0, g1, g2, g3, g4, g5, g6, g7, g8⟩ := nine HAc5.out
                    go_simp
                    have HAc6 := Lib.hid (N9.put HAc5.out (.int .u64 (e2 : Int)) (.int .u64 (v2 : Int)) (.int .u64 (n2 : Int)) (.int .u64 (x2 : Int)) (.string r2) (.bool o2) (.int .u64 (b2 : Int)) (.int .u64 (c2 : Int)) (.int .i64 t2))
                    have HOc6 := Lib.hid ((put_other (w := wc5) (g := gA) (q := gO) (Ne.symm HNE.out) (.int .u64 (e2 : Int)) (.int .u64 (v2 : Int)) (.int .u64 (n2 : Int)) (.int .u64 (x2 : Int)) (.string r2) (.bool o2) (.int .u64 (b2 : Int)) (.int .u64 (c2 : Int)) (.int .i64 t2)).trans HOc5.out)
                    have HBc6 := Lib.hid (set9 (g := gA) HGA.out HBc5.out (.int .u64 (e2 : Int)) (.int .u64 (v2 : Int)) (.int .u64 (n2 : Int)) (.int .u64 (x2 : Int)) (.string r2) (.bool o2) (.int .u64 (b2 : Int)) (.int .u64 (c2 : Int)) (.int .i64 t2))
                    refine hK.out _ _ (mkS.out _ HBc6.out) (fun hHeld2 => ?_)
                    clear hK K hHeld
                    have hHeld := hHeld2
                    clear hHeld2
                    clear HBc5 HSc5 HAc5 HOc5
                    clear d0 d1 d2 d3 d4 d5 d6 d7 d8 g0 g1 g2 g3 g4 g5 g6 g7 g8
                    try simp only [Act.put, List.setIfInBounds_toArray, List.set_cons_zero, List.set_cons_succ]
                    generalize (((((((((wc5.setCell ⟨gA, 0, none⟩ (.int .u64 (e2 : Int))).setCell ⟨gA, 1, none⟩ (.int .u64 (v2 : Int))).setCell ⟨gA, 2, none⟩ (.int .u64 (n2 : Int))).setCell ⟨gA, 3, none⟩ (.int .u64 (x2 : Int))).setCell ⟨gA, 4, none⟩ (.string r2)).setCell ⟨gA, 5, none⟩ (.bool o2)).setCell ⟨gA, 6, none⟩ (.int .u64 (b2 : Int))).setCell ⟨gA, 7, none⟩ (.int .u64 (c2 : Int))).setCell ⟨gA, 8, none⟩ (.int .i64 t2)) = wc6 at *
                    refine wpAnyH_ready (rs := [14]) (by kernel_rfl) (by simp) ?_
                    refine AllReadyH.cons (o := ⟨none, _, _, _, _, _⟩) rfl (fun K hK => ?_) ?_
                    · obtain ⟨⟨m0, m1, m2⟩, l0, l1, l2⟩ := three HOc6.out
                      go_simp
                      have HOc7 := Lib.hid (put3 HOc6.out (.int .u64 (ov : Int)) (.int .u64 (on : Int)) (.string ob))
                      have HAc7 := Lib.hid ((put3_other (w := wc6) (g := gO) (q := gA) HNE.out (.int .u64 (ov : Int)) (.int .u64 (on : Int)) (.string ob)).trans HAc6.out)
                      have HBc7 := Lib.hid (set3 (g := gO) HGO.out HBc6.out (.int .u64 (ov : Int)) (.int .u64 (on : Int)) (.string ob))
                      refine hK.out _ _ (mkS.out _ HBc7.out) (fun hHeld2 => ?_)
                      clear hK K hHeld
                      have hHeld := hHeld2
                      clear hHeld2
                      clear HBc6 HAc6 HOc6 m0 m1 m2 l0 l1 l2
                      try simp only [Act.put, List.setIfInBounds_toArray, List.set_cons_zero, List.set_cons_succ]
                      generalize (((wc6.setCell ⟨gO, 0, none⟩ (.int .u64 (ov : Int))).setCell ⟨gO, 1, none⟩ (.int .u64 (on : Int))).setCell ⟨gO, 2, none⟩ (.string ob)) = wc7 at *
                      refine wpAnyH_take (i := 15) (oi := ⟨some 17, _, _, _, _, _⟩) (v := ?_) rfl (by kernel_rfl) (by kernel_rfl) (by kernel_rfl) (fun _ _ _ h => by cases h.1) (Or.inl ⟨by rfl, by (intro w hSw; (try dsimp only at hSw); go_simp; try with_reducible rfl)⟩) hHeld ?_
                      try simp only [Act.put, List.setIfInBounds_toArray, List.set_cons_zero, List.set_cons_succ]
                      refine wpAnyH_take (i := 16) (oi := ⟨some 18, _, _, _, _, _⟩) (v := ?_) rfl (by kernel_rfl) (by kernel_rfl) (by kernel_rfl) (fun _ _ _ h => by cases h.1) (Or.inl ⟨by rfl, by (intro w hSw; (try dsimp only at hSw); go_simp; try with_reducible rfl)⟩) hHeld ?_
                      try simp only [Act.put, List.setIfInBounds_toArray, List.set_cons_zero, List.set_cons_succ]
                      refine wpAnyH_done (by kernel_rfl) ?_ _
                      exact ⟨rfl, gA, gO, ⟨rfl, HGA.out, HGO.out, HNE.out, HAc7.out, HOc7.out, HBc7.out⟩⟩
                    · exact AllReadyH.nil
                  · exact AllReadyH.nil
                · exact AllReadyH.nil
              · exact AllReadyH.nil
          · refine AllReadyH.cons (o := ⟨some 15, _, _, _, _, _⟩) rfl (fun K hK => ?_) ?_
            · go_simp
              have hbn := alloc_below wc2 (.cells #[.int .u64 0, .int .u64 0, .int .u64 0, .int .u64 0, .string ⟨#[]⟩, .bool false, .int .u64 0, .int .u64 0, .int .i64 0] 39)
              have HSc3 := Lib.hid ((hbn.block _ (lt_of_heap HSc2.out)).trans HSc2.out)
              have HOc3 := Lib.hid ((hbn.block _ (lt_of_heap HOc2.out)).trans HOc2.out)
              have HAc3 : Hid (N9 (wc2.alloc (.cells #[.int .u64 0, .int .u64 0, .int .u64 0, .int .u64 0, .string ⟨#[]⟩, .bool false, .int .u64 0, .int .u64 0, .int .i64 0] 39)) wc2.heap.size (.int .u64 0) (.int .u64 0) (.int .u64 0) (.int .u64 0) (.string ⟨#[]⟩) (.bool false) (.int .u64 0) (.int .u64 0) (.int .i64 0)) := Lib.hid (heap_alloc_new wc2 _)
              have HBc3 := Lib.hid (HBc2.out.trans (hbn.mono HBc2.out.size))
              have HGA := Lib.hid HBc2.out.size
              have HNE : Hid (wc2.heap.size ≠ gO) := Lib.hid (Ne.symm (Nat.ne_of_lt (lt_of_heap HOc2.out)))
              refine hK.out _ _ (mkS.out _ HBc3.out) (fun hHeld2 => ?_)
              clear hK K hHeld
              have hHeld := hHeld2
              clear hHeld2
              clear hbn HBc2 HSc2 HOc2
              try simp only [Act.put, List.setIfInBounds_toArray, List.set_cons_zero, List.set_cons_succ]
              generalize wc2.alloc (.cells #[.int .u64 0, .int .u64 0, .int .u64 0, .int .u64 0, .string ⟨#[]⟩, .bool false, .int .u64 0, .int .u64 0, .int .i64 0] 39) = wc3 at *
              generalize wc2.heap.size = gA at *
              refine wpAnyH_ready (rs := [4]) (by kernel_rfl) (by simp) ?_
              refine AllReadyH.cons (o := ⟨some 76, _, _, _, _, _⟩) rfl (fun K hK => ?_) ?_
              · go_simp
                refine (K7.out _ gS HSc3.out).mono ?_
                rintro ze wc4 ⟨rfl, hbn⟩
                try go_simp
                have HSc4 := Lib.hid ((hbn.block _ (lt_of_heap HSc3.out)).trans HSc3.out)
                have HAc4 := Lib.hid (N9.later HAc3.out hbn)
                have HOc4 := Lib.hid ((hbn.block _ (lt_of_heap HOc3.out)).trans HOc3.out)
                have HBc4 := Lib.hid (HBc3.out.trans (hbn.mono HBc3.out.size))
                refine hK.out _ _ (mkS.out _ HBc4.out) (fun hHeld2 => ?_)
                clear hK K hHeld
                have hHeld := hHeld2
                clear hHeld2
                clear hbn HBc3 HSc3 HAc3 HOc3
                try simp only [Act.put, List.setIfInBounds_toArray, List.set_cons_zero, List.set_cons_succ]
                refine wpAnyH_ready (rs := [5]) (by kernel_rfl) (by simp) ?_
                refine AllReadyH.cons (o := ⟨some 77, _, _, _, _, _⟩) rfl (fun K hK => ?_) ?_
                · go_simp
                  refine (K14.out _).mono ?_
                  rintro ze wc5 ⟨rfl, hbn⟩
                  try go_simp
                  have HSc5 := Lib.hid ((hbn.block _ (lt_of_heap HSc4.out)).trans HSc4.out)
                  have HAc5 := Lib.hid (N9.later HAc4.out hbn)
                  have HOc5 := Lib.hid ((hbn.block _ (lt_of_heap HOc4.out)).trans HOc4.out)
                  have HBc5 := Lib.hid (HBc4.out.trans (hbn.mono HBc4.out.size))
                  refine hK.out _ _ (mkS.out _ HBc5.out) (fun hHeld2 => ?_)
                  clear hK K hHeld
                  have hHeld := hHeld2
                  clear hHeld2
                  clear hbn HBc4 HSc4 HAc4 HOc4
                  try simp only [Act.put, List.setIfInBounds_toArray, List.set_cons_zero, List.set_cons_succ]
                  refine wpAnyH_take (i := 6) (oi := ⟨some 71, _, _, _, _, _⟩) (v := ?_) rfl (by kernel_rfl) (by kernel_rfl) (by kernel_rfl) (fun _ _ _ h => by cases h.1) (Or.inl ⟨by rfl, by (intro w hSw; (try dsimp only at hSw); go_simp; try with_reducible rfl)⟩) hHeld ?_
                  try simp only [Act.put, List.setIfInBounds_toArray, List.set_cons_zero, List.set_cons_succ]
                  refine wpAnyH_take (i := 7) (oi := ⟨some 78, _, _, _, _, _⟩) (v := ?_) rfl (by kernel_rfl) (by kernel_rfl) (by kernel_rfl) (fun _ _ _ h => by cases h.1) (Or.inl ⟨by rfl, by (intro w hSw; (try dsimp only at hSw); go_simp; try with_reducible rfl)⟩) hHeld ?_
                  try simp only [Act.put, List.setIfInBounds_toArray, List.set_cons_zero, List.set_cons_succ]
                  refine wpAnyH_take (i := 8) (oi := ⟨some 79, _, _, _, _, _⟩) (v := ?_) rfl (by kernel_rfl) (by kernel_rfl) (by kernel_rfl) (fun _ _ _ h => by cases h.1) (Or.inl ⟨by rfl, by (intro w hSw; (try dsimp only at hSw); go_simp; try with_reducible rfl)⟩) hHeld ?_
                  try simp only [Act.put, List.setIfInBounds_toArray, List.set_cons_zero, List.set_cons_succ]
                  refine wpAnyH_take (i := 9) (oi := ⟨some 80, _, _, _, _, _⟩) (v := ?_) rfl (by kernel_rfl) (by kernel_rfl) (by kernel_rfl) (fun _ _ _ h => by cases h.1) (Or.inl ⟨by rfl, by (intro w hSw; (try dsimp only at hSw); go_simp; try with_reducible rfl)⟩) hHeld ?_
                  try simp only [Act.put, List.setIfInBounds_toArray, List.set_cons_zero, List.set_cons_succ]
                  refine wpAnyH_take (i := 10) (oi := ⟨some 81, _, _, _, _, _⟩) (v := ?_) rfl (by kernel_rfl) (by kernel_rfl) (by kernel_rfl) (fun _ _ _ h => by cases h.1) (Or.inl ⟨by rfl, by (intro w hSw; (try dsimp only at hSw); go_simp; try with_reducible rfl)⟩) hHeld ?_
                  try simp only [Act.put, List.setIfInBounds_toArray, List.set_cons_zero, List.set_cons_succ]
                  refine wpAnyH_ready (rs := [13]) (by kernel_rfl) (by simp) ?_
                  refine AllReadyH.cons (o := ⟨none, _, _, _, _, _⟩) rfl (fun K hK => ?_) ?_
                  · obtain ⟨⟨d0, d1, d2, d3, d4, d5, d6, d7, d8⟩, g0, g1, g2, g3, g4, g5, g6, g7, g8⟩ := nine HAc5.out
                    go_simp
                    have HAc6 := Lib.hid (N9.put HAc5.out (.int .u64 (e2 : Int)) (.int .u64 (v2 : Int)) (.int .u64 (n2 : Int)) (.int .u64 (x2 : Int)) (.string r2) (.bool o2) (.int .u64 (b2 : Int)) (.int .u64 (c2 : Int)) (.int .i64 t2))
                    have HOc6 := Lib.hid ((put_other (w := wc5) (g := gA) (q := gO) (Ne.symm HNE.out) (.int .u64 (e2 : Int)) (.int .u64 (v2 : Int)) (.int .u64 (n2 : Int)) (.int .u64 (x2 : Int)) (.string r2) (.bool o2) (.int .u64 (b2 : Int)) (.int .u64 (c2 : Int)) (.int .i64 t2)).trans HOc5.out)
                    have HBc6 := Lib.hid (set9 (g := gA) HGA.out HBc5.out (.int .u64 (e2 : Int)) (.int .u64 (v2 : Int)) (.int .u64 (n2 : Int)) (.int .u64 (x2 : Int)) (.string r2) (.bool o2) (.int .u64 (b2 : Int)) (.int .u64 (c2 : Int)) (.int .i64 t2))
                    refine hK.out _ _ (mkS.out _ HBc6.out) (fun hHeld2 => ?_)
                    clear hK K hHeld
                    have hHeld := hHeld2
                    clear hHeld2
                    clear HBc5 HSc5 HAc5 HOc5
                    clear d0 d1 d2 d3 d4 d5 d6 d7 d8 g0 g1 g2 g3 g4 g5 g6 g7 g8
                    try simp only [Act.put, List.setIfInBounds_toArray, List.set_cons_zero, List.set_cons_succ]
                    generalize (((((((((wc5.setCell ⟨gA, 0, none⟩ (.int .u64 (e2 : Int))).setCell ⟨gA, 1, none⟩ (.int .u64 (v2 : Int))).setCell ⟨gA, 2, none⟩ (.int .u64 (n2 : Int))).setCell ⟨gA, 3, none⟩ (.int .u64 (x2 : Int))).setCell ⟨gA, 4, none⟩ (.string r2)).setCell ⟨gA, 5, none⟩ (.bool o2)).setCell ⟨gA, 6, none⟩ (.int .u64 (b2 : Int))).setCell ⟨gA, 7, none⟩ (.int .u64 (c2 : Int))).setCell ⟨gA, 8, none⟩ (.int .i64 t2)) = wc6 at *
                    refine wpAnyH_ready (rs := [14]) (by kernel_rfl) (by simp) ?_
                    refine AllReadyH.cons (o := ⟨none, _, _, _, _, _⟩) rfl (fun K hK => ?_) ?_
                    · obtain ⟨⟨m0, m1, m2⟩, l0, l1, l2⟩ := three HOc6.out
                      go_simp
                      have HOc7 := Lib.hid (put3 HOc6.out (.int .u64 (ov : Int)) (.int .u64 (on : Int)) (.string ob))
                      have HAc7 := Lib.hid ((put3_other (w := wc6) (g := gO) (q := gA) HNE.out (.int .u64 (ov : Int)) (.int .u64 (on : Int)) (.string ob)).trans HAc6.out)
                      have HBc7 := Lib.hid (set3 (g := gO) HGO.out HBc6.out (.int .u64 (ov : Int)) (.int .u64 (on : Int)) (.string ob))
                      refine hK.out _ _ (mkS.out _ HBc7.out) (fun hHeld2 => ?_)
                      clear hK K hHeld
                      have hHeld := hHeld2
                      clear hHeld2
                      clear HBc6 HAc6 HOc6 m0 m1 m2 l0 l1 l2
                      try simp only [Act.put, List.setIfInBounds_toArray, List.set_cons_zero, List.set_cons_succ]
                      generalize (((wc6.setCell ⟨gO, 0, none⟩ (.int .u64 (ov : Int))).setCell ⟨gO, 1, none⟩ (.int .u64 (on : Int))).setCell ⟨gO, 2, none⟩ (.string ob)) = wc7 at *
                      refine wpAnyH_take (i := 15) (oi := ⟨some 17, _, _, _, _, _⟩) (v := ?_) rfl (by kernel_rfl) (by kernel_rfl) (by kernel_rfl) (fun _ _ _ h => by cases h.1) (Or.inl ⟨by rfl, by (intro w hSw; (try dsimp only at hSw); go_simp; try with_reducible rfl)⟩) hHeld ?_
                      try simp only [Act.put, List.setIfInBounds_toArray, List.set_cons_zero, List.set_cons_succ]
                      refine wpAnyH_take (i := 16) (oi := ⟨some 18, _, _, _, _, _⟩) (v := ?_) rfl (by kernel_rfl) (by kernel_rfl) (by kernel_rfl) (fun _ _ _ h => by cases h.1) (Or.inl ⟨by rfl, by (intro w hSw; (try dsimp only at hSw); go_simp; try with_reducible rfl)⟩) hHeld ?_
                      try simp only [Act.put, List.setIfInBounds_toArray, List.set_cons_zero, List.set_cons_succ]
                      refine wpAnyH_done (by kernel_rfl) ?_ _
                      exact ⟨rfl, gA, gO, ⟨rfl, HGA.out, HGO.out, HNE.out, HAc7.out, HOc7.out, HBc7.out⟩⟩
                    · exact AllReadyH.nil
                  · exact AllReadyH.nil
                · exact AllReadyH.nil
              · exact AllReadyH.nil
            · exact AllReadyH.nil
        · refine AllReadyH.cons (o := ⟨some 15, _, _, _, _, _⟩) rfl (fun K hK => ?_) ?_
          · go_simp
            have hbn := alloc_below wc1 (.cells #[.int .u64 0, .int .u64 0, .int .u64 0, .int .u64 0, .string ⟨#[]⟩, .bool false, .int .u64 0, .int .u64 0, .int .i64 0] 39)
            have HOc2 := Lib.hid ((hbn.block _ (lt_of_heap HOc1.out)).trans HOc1.out)
            have HAc2 : Hid (N9 (wc1.alloc (.cells #[.int .u64 0, .int .u64 0, .int .u64 0, .int .u64 0, .string ⟨#[]⟩, .bool false, .int .u64 0, .int .u64 0, .int .i64 0] 39)) wc1.heap.size (.int .u64 0) (.int .u64 0) (.int .u64 0) (.int .u64 0) (.string ⟨#[]⟩) (.bool false) (.int .u64 0) (.int .u64 0) (.int .i64 0)) := Lib.hid (heap_alloc_new wc1 _)
            have HBc2 := Lib.hid (HBc1.out.trans (hbn.mono HBc1.out.size))
            have HGA := Lib.hid HBc1.out.size
            have HNE : Hid (wc1.heap.size ≠ gO) := Lib.hid (Ne.symm (Nat.ne_of_lt (lt_of_heap HOc1.out)))
            refine hK.out _ _ (mkS.out _ HBc2.out) (fun hHeld2 => ?_)
            clear hK K hHeld
            have hHeld := hHeld2
            clear hHeld2
            clear hbn HBc1 HOc1
            try simp only [Act.put, List.setIfInBounds_toArray, List.set_cons_zero, List.set_cons_succ]
            generalize wc1.alloc (.cells #[.int .u64 0, .int .u64 0, .int .u64 0, .int .u64 0, .string ⟨#[]⟩, .bool false, .int .u64 0, .int .u64 0, .int .i64 0] 39) = wc2 at *
            generalize wc1.heap.size = gA at *
            refine wpAnyH_ready (rs := [3]) (by kernel_rfl) (by simp) ?_
            refine AllReadyH.cons (o := ⟨some 75, _, _, _, _, _⟩) rfl (fun K hK => ?_) ?_
            · go_simp
              have hbn := alloc_below wc2 (.cells #[.int .u64 1, .int .u64 1] 22)
              have HAc3 := Lib.hid (N9.later HAc2.out hbn)
              have HOc3 := Lib.hid ((hbn.block _ (lt_of_heap HOc2.out)).trans HOc2.out)
              have HSc3 := Lib.hid (heap_alloc_new wc2 (.cells #[.int .u64 1, .int .u64 1] 22))
              have HBc3 := Lib.hid (HBc2.out.trans (hbn.mono HBc2.out.size))
              refine hK.out _ _ (mkS.out _ HBc3.out) (fun hHeld2 => ?_)
              clear hK K hHeld
              have hHeld := hHeld2
              clear hHeld2
              clear hbn HBc2 HAc2 HOc2
              try simp only [Act.put, List.setIfInBounds_toArray, List.set_cons_zero, List.set_cons_succ]
              generalize wc2.alloc (.cells #[.int .u64 1, .int .u64 1] 22) = wc3 at *
              generalize wc2.heap.size = gS at *
              refine wpAnyH_ready (rs := [4]) (by kernel_rfl) (by simp) ?_
              refine AllReadyH.cons (o := ⟨some 76, _, _, _, _, _⟩) rfl (fun K hK => ?_) ?_
              · go_simp
                refine (K7.out _ gS HSc3.out).mono ?_
                rintro ze wc4 ⟨rfl, hbn⟩
                try go_simp
                have HSc4 := Lib.hid ((hbn.block _ (lt_of_heap HSc3.out)).trans HSc3.out)
                have HAc4 := Lib.hid (N9.later HAc3.out hbn)
                have HOc4 := Lib.hid ((hbn.block _ (lt_of_heap HOc3.out)).trans HOc3.out)
                have HBc4 := Lib.hid (HBc3.out.trans (hbn.mono HBc3.out.size))
                refine hK.out _ _ (mkS.out _ HBc4.out) (fun hHeld2 => ?_)
                clear hK K hHeld
                have hHeld := hHeld2
                clear hHeld2
                clear hbn HBc3 HSc3 HAc3 HOc3
                try simp only [Act.put, List.setIfInBounds_toArray, List.set_cons_zero, List.set_cons_succ]
                refine wpAnyH_ready (rs := [5]) (by kernel_rfl) (by simp) ?_
                refine AllReadyH.cons (o := ⟨some 77, _, _, _, _, _⟩) rfl (fun K hK => ?_) ?_
                · go_simp
                  refine (K14.out _).mono ?_
                  rintro ze wc5 ⟨rfl, hbn⟩
                  try go_simp
                  have HSc5 := Lib.hid ((hbn.block _ (lt_of_heap HSc4.out)).trans HSc4.out)
                  have HAc5 := Lib.hid (N9.later HAc4.out hbn)
                  have HOc5 := Lib.hid ((hbn.block _ (lt_of_heap HOc4.out)).trans HOc4.out)
                  have HBc5 := Lib.hid (HBc4.out.trans (hbn.mono HBc4.out.size))
                  refine hK.out _ _ (mkS.out _ HBc5.out) (fun hHeld2 => ?_)
                  clear hK K hHeld
                  have hHeld := hHeld2
                  clear hHeld2
                  clear hbn HBc4 HSc4 HAc4 HOc4
                  try simp only [Act.put, List.setIfInBounds_toArray, List.set_cons_zero, List.set_cons_succ]
                  refine wpAnyH_take (i := 6) (oi := ⟨some 71, _, _, _, _, _⟩) (v := ?_) rfl (by kernel_rfl) (by kernel_rfl) (by kernel_rfl) (fun _ _ _ h => by cases h.1) (Or.inl ⟨by rfl, by (intro w hSw; (try dsimp only at hSw); go_simp; try with_reducible rfl)⟩) hHeld ?_
                  try simp only [Act.put, List.setIfInBounds_toArray, List.set_cons_zero, List.set_cons_succ]
                  refine wpAnyH_take (i := 7) (oi := ⟨some 78, _, _, _, _, _⟩) (v := ?_) rfl (by kernel_rfl) (by kernel_rfl) (by kernel_rfl) (fun _ _ _ h => by cases h.1) (Or.inl ⟨by rfl, by (intro w hSw; (try dsimp only at hSw); go_simp; try with_reducible rfl)⟩) hHeld ?_
                  try simp only [Act.put, List.setIfInBounds_toArray, List.set_cons_zero, List.set_cons_succ]
                  refine wpAnyH_take (i := 8) (oi := ⟨some 79, _, _, _, _, _⟩) (v := ?_) rfl (by kernel_rfl) (by kernel_rfl) (by kernel_rfl) (fun _ _ _ h => by cases h.1) (Or.inl ⟨by rfl, by (intro w hSw; (try dsimp only at hSw); go_simp; try with_reducible rfl)⟩) hHeld ?_
                  try simp only [Act.put, List.setIfInBounds_toArray, List.set_cons_zero, List.set_cons_succ]
                  refine wpAnyH_take (i := 9) (oi := ⟨some 80, _, _, _, _, _⟩) (v := ?_) rfl (by kernel_rfl) (by kernel_rfl) (by kernel_rfl) (fun _ _ _ h => by cases h.1) (Or.inl ⟨by rfl, by (intro w hSw; (try dsimp only at hSw); go_simp; try with_reducible rfl)⟩) hHeld ?_
                  try simp only [Act.put, List.setIfInBounds_toArray, List.set_cons_zero, List.set_cons_succ]
                  refine wpAnyH_take (i := 10) (oi := ⟨some 81, _, _, _, _, _⟩) (v := ?_) rfl (by kernel_rfl) (by kernel_rfl) (by kernel_rfl) (fun _ _ _ h => by cases h.1) (Or.inl ⟨by rfl, by (intro w hSw; (try dsimp only at hSw); go_simp; try with_reducible rfl)⟩) hHeld ?_
                  try simp only [Act.put, List.setIfInBounds_toArray, List.set_cons_zero, List.set_cons_succ]
                  refine wpAnyH_ready (rs := [13]) (by kernel_rfl) (by simp) ?_
                  refine AllReadyH.cons (o := ⟨none, _, _, _, _, _⟩) rfl (fun K hK => ?_) ?_
                  · obtain ⟨⟨d0, d1, d2, d3, d4, d5, d6, d7, d8⟩, g0, g1, g2, g3, g4, g5, g6, g7, g8⟩ := nine HAc5.out
                    go_simp
                    have HAc6 := Lib.hid (N9.put HAc5.out (.int .u64 (e2 : Int)) (.int .u64 (v2 : Int)) (.int .u64 (n2 : Int)) (.int .u64 (x2 : Int)) (.string r2) (.bool o2) (.int .u64 (b2 : Int)) (.int .u64 (c2 : Int)) (.int .i64 t2))
                    have HOc6 := Lib.hid ((put_other (w := wc5) (g := gA) (q := gO) (Ne.symm HNE.out) (.int .u64 (e2 : Int)) (.int .u64 (v2 : Int)) (.int .u64 (n2 : Int)) (.int .u64 (x2 : Int)) (.string r2) (.bool o2) (.int .u64 (b2 : Int)) (.int .u64 (c2 : Int)) (.int .i64 t2)).trans HOc5.out)
                    have HBc6 := Lib.hid (set9 (g := gA) HGA.out HBc5.out (.int .u64 (e2 : Int)) (.int .u64 (v2 : Int)) (.int .u64 (n2 : Int)) (.int .u64 (x2 : Int)) (.string r2) (.bool o2) (.int .u64 (b2 : Int)) (.int .u64 (c2 : Int)) (.int .i64 t2))
                    refine hK.out _ _ (mkS.out _ HBc6.out) (fun hHeld2 => ?_)
                    clear hK K hHeld
                    have hHeld := hHeld2
                    clear hHeld2
                    clear HBc5 HSc5 HAc5 HOc5
                    clear d0 d1 d2 d3 d4 d5 d6 d7 d8 g0 g1 g2 g3 g4 g5 g6 g7 g8
                    try simp only [Act.put, List.setIfInBounds_toArray, List.set_cons_zero, List.set_cons_succ]
                    generalize (((((((((wc5.setCell ⟨gA, 0, none⟩ (.int .u64 (e2 : Int))).setCell ⟨gA, 1, none⟩ (.int .u64 (v2 : Int))).setCell ⟨gA, 2, none⟩ (.int .u64 (n2 : Int))).setCell ⟨gA, 3, none⟩ (.int .u64 (x2 : Int))).setCell ⟨gA, 4, none⟩ (.string r2)).setCell ⟨gA, 5, none⟩ (.bool o2)).setCell ⟨gA, 6, none⟩ (.int .u64 (b2 : Int))).setCell ⟨gA, 7, none⟩ (.int .u64 (c2 : Int))).setCell ⟨gA, 8, none⟩ (.int .i64 t2)) = wc6 at *
                    refine wpAnyH_ready (rs := [14]) (by kernel_rfl) (by simp) ?_
                    refine AllReadyH.cons (o := ⟨none, _, _, _, _, _⟩) rfl (fun K hK => ?_) ?_
                    · obtain ⟨⟨m0, m1, m2⟩, l0, l1, l2⟩ := three HOc6.out
                      go_simp
                      have HOc7 := Lib.hid (put3 HOc6.out (.int .u64 (ov : Int)) (.int .u64 (on : Int)) (.string ob))
                      have HAc7 := Lib.hid ((put3_other (w := wc6) (g := gO) (q := gA) HNE.out (.int .u64 (ov : Int)) (.int .u64 (on : Int)) (.string ob)).trans HAc6.out)
                      have HBc7 := Lib.hid (set3 (g := gO) HGO.out HBc6.out (.int .u64 (ov : Int)) (.int .u64 (on : Int)) (.string ob))
                      refine hK.out _ _ (mkS.out _ HBc7.out) (fun hHeld2 => ?_)
                      clear hK K hHeld
                      have hHeld := hHeld2
                      clear hHeld2
                      clear HBc6 HAc6 HOc6 m0 m1 m2 l0 l1 l2
                      try simp only [Act.put, List.setIfInBounds_toArray, List.set_cons_zero, List.set_cons_succ]
                      generalize (((wc6.setCell ⟨gO, 0, none⟩ (.int .u64 (ov : Int))).setCell ⟨gO, 1, none⟩ (.int .u64 (on : Int))).setCell ⟨gO, 2, none⟩ (.string ob)) = wc7 at *
                      refine wpAnyH_take (i := 15) (oi := ⟨some 17, _, _, _, _, _⟩) (v := ?_) rfl (by kernel_rfl) (by kernel_rfl) (by kernel_rfl) (fun _ _ _ h => by cases h.1) (Or.inl ⟨by rfl, by (intro w hSw; (try dsimp only at hSw); go_simp; try with_reducible rfl)⟩) hHeld ?_
                      try simp only [Act.put, List.setIfInBounds_toArray, List.set_cons_zero, List.set_cons_succ]
                      refine wpAnyH_take (i := 16) (oi := ⟨some 18, _, _, _, _, _⟩) (v := ?_) rfl (by kernel_rfl) (by kernel_rfl) (by kernel_rfl) (fun _ _ _ h => by cases h.1) (Or.inl ⟨by rfl, by (intro w hSw; (try dsimp only at hSw); go_simp; try with_reducible rfl)⟩) hHeld ?_
                      try simp only [Act.put, List.setIfInBounds_toArray, List.set_cons_zero, List.set_cons_succ]
                      refine wpAnyH_done (by kernel_rfl) ?_ _
                      exact ⟨rfl, gA, gO, ⟨rfl, HGA.out, HGO.out, HNE.out, HAc7.out, HOc7.out, HBc7.out⟩⟩
                    · exact AllReadyH.nil
                  · exact AllReadyH.nil
                · exact AllReadyH.nil
              · exact AllReadyH.nil
            · exact AllReadyH.nil
          · exact AllReadyH.nil
      · exact AllReadyH.nil
end Go.Proofs.Ytdojepkmjifoeaa
