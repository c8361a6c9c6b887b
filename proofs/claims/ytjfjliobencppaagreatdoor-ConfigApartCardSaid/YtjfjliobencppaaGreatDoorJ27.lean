/- config: ConfigApart, over awake. -/
import Derived.Test.YtjfjliobencppaaGreatDoorJ26
set_option linter.unusedVariables false
set_option linter.unusedSimpArgs false
namespace Go.Proofs.YtjfjliobencppaaGreatDoor.Cf
open Go.RowKit

set_option maxRecDepth 100000 in
set_option maxHeartbeats 4000000 in
theorem apart_any {w : World} {c0 c1 c2 d0 d1 d2 : Value} {a b : Co} (ha : CoIn w c0 c1 c2 a) (hb : CoIn w d0 d1 d2 b) (hw : ∀ wz, Below w.heap.size w wz → Calls Tryz.prog 7 #[] wz (TrP true wz)) :
    Calls Tryz.prog 6 #[.agg #[c0, c1, c2], .agg #[d0, d1, d2]] w (TrP true w) := by
  have HB0 := Lib.hid (show Below w.heap.size w ((w.alloc (.cells #[c0, c1, c2] 26)).alloc (.cells #[d0, d1, d2] 26)) from (alloc_below _ _).trans ((alloc_below _ _).mono (by simp)))
  have HX0 := Lib.hid (show Bk ((w.alloc (.cells #[c0, c1, c2] 26)).alloc (.cells #[d0, d1, d2] 26)) w.heap.size #[c0, c1, c2] 26 from ((alloc_below _ _).block _ (by simp)).trans (heap_alloc_new w _))
  have HY0 : Hid (Bk ((w.alloc (.cells #[c0, c1, c2] 26)).alloc (.cells #[d0, d1, d2] 26)) (w.heap.size + 1) #[d0, d1, d2] 26) := Lib.hid (by
    have h := heap_alloc_new (w.alloc (.cells #[c0, c1, c2] 26)) (.cells #[d0, d1, d2] 26)
    rw [show (w.alloc (.cells #[c0, c1, c2] 26)).heap.size = w.heap.size + 1 by simp] at h
    exact h)
  obtain ⟨w0, hw0⟩ : ∃ w0, w0 = ((w.alloc (.cells #[c0, c1, c2] 26)).alloc (.cells #[d0, d1, d2] 26)) := ⟨_, rfl⟩
  rw [← hw0] at HB0 HX0 HY0
  have f0 : w0.cell? ⟨w.heap.size, 0, none⟩ = some (c0) := (cell_of_row _ _ 0 _ _ _ HX0.out).trans rfl
  have f1 : w0.cell? ⟨w.heap.size, 1, none⟩ = some (c1) := (cell_of_row _ _ 1 _ _ _ HX0.out).trans rfl
  have f2 : w0.cell? ⟨w.heap.size, 2, none⟩ = some (c2) := (cell_of_row _ _ 2 _ _ _ HX0.out).trans rfl
  have g0 : w0.cell? ⟨w.heap.size + 1, 0, none⟩ = some (d0) := (cell_of_row _ _ 0 _ _ _ HY0.out).trans rfl
  have g1 : w0.cell? ⟨w.heap.size + 1, 1, none⟩ = some (d1) := (cell_of_row _ _ 1 _ _ _ HY0.out).trans rfl
  have g2 : w0.cell? ⟨w.heap.size + 1, 2, none⟩ = some (d2) := (cell_of_row _ _ 2 _ _ _ HY0.out).trans rfl
  have HA := Lib.hid ha
  have HBB := Lib.hid hb
  have KW := Lib.hid hw
  have KL1 : Hid (∀ wz, Below w.heap.size w wz → Calls Tryz.prog 8 #[.agg #[c0, c1, c2]] wz (LiP a.lit wz)) := Lib.hid (fun wz h => light_any (HA.out.later h))
  have KL2 : Hid (∀ wz, Below w.heap.size w wz → Calls Tryz.prog 8 #[.agg #[d0, d1, d2]] wz (LiP b.lit wz)) := Lib.hid (fun wz h => light_any (HBB.out.later h))
  have KB1 : Hid (a.lit → ∀ wz, Below w.heap.size w wz → Calls Tryz.prog 9 #[.agg #[c0, c1, c2]] wz fun e w' => e = .returned (.tuple #[.string a.out, .int .i64 (a.err : Nat)]) ∧ Below wz.heap.size wz w') := Lib.hid (fun hl wz h => bytes_any (HA.out.later h) hl.sized)
  have KB2 : Hid (b.lit → ∀ wz, Below w.heap.size w wz → Calls Tryz.prog 9 #[.agg #[d0, d1, d2]] wz fun e w' => e = .returned (.tuple #[.string b.out, .int .i64 (b.err : Nat)]) ∧ Below wz.heap.size wz w') := Lib.hid (fun hl wz h => bytes_any (HBB.out.later h) hl.sized)
  clear ha hb hw
  go_enter Tryz.func6, Tryz.ntmps6
  go_upto_region 1 with fail
  rw [← hw0]
  clear hw0
  go_wp2_with fail
  refine (KW.out _ HB0.out).mono ?_
  rintro e w1 ⟨rfl, hb⟩
  have HX1 := Lib.hid (Bk.later HX0.out hb)
  have HY1 := Lib.hid (Bk.later HY0.out hb)
  have HB1 := Lib.hid (HB0.out.trans (hb.mono HB0.out.size))
  clear hb f0 f1 f2 g0 g1 g2
  obtain ⟨f0, f1, f2⟩ := bk3 HX1.out
  obtain ⟨g0, g1, g2⟩ := bk3 HY1.out
  go_wp2_with fail
  refine (KL1.out _ HB1.out).mono ?_
  rintro e w2 ⟨l1, rfl, hl1, hb⟩
  have HX2 := Lib.hid (Bk.later HX1.out hb)
  have HY2 := Lib.hid (Bk.later HY1.out hb)
  have HB2 := Lib.hid (HB1.out.trans (hb.mono HB1.out.size))
  clear hb f0 f1 f2 g0 g1 g2
  obtain ⟨f0, f1, f2⟩ := bk3 HX2.out
  obtain ⟨g0, g1, g2⟩ := bk3 HY2.out
  cases l1 with
  | false =>
    go_wp2_with fail
    go_ret
    exact ⟨rfl, HB2.out⟩
  | true =>
    go_wp2_with fail
    refine (KL2.out _ HB2.out).mono ?_
    rintro e w3 ⟨l2, rfl, hl2, hb⟩
    have HX3 := Lib.hid (Bk.later HX2.out hb)
    have HY3 := Lib.hid (Bk.later HY2.out hb)
    have HB3 := Lib.hid (HB2.out.trans (hb.mono HB2.out.size))
    clear hb f0 f1 f2 g0 g1 g2
    obtain ⟨f0, f1, f2⟩ := bk3 HX3.out
    obtain ⟨g0, g1, g2⟩ := bk3 HY3.out
    cases l2 with
    | false =>
      go_wp2_with fail
      go_ret
      exact ⟨rfl, HB3.out⟩
    | true =>
      have HLA : Hid a.lit := Lib.hid (by first | exact hl1 rfl | exact hl1 trivial | assumption)
      have HLB : Hid b.lit := Lib.hid (by first | exact hl2 rfl | exact hl2 trivial | assumption)
      try clear hl1 hl2
      go_wp2_with fail
      refine (KB1.out HLA.out _ HB3.out).mono ?_
      rintro e w4 ⟨rfl, hb⟩
      have HX4 := Lib.hid (Bk.later HX3.out hb)
      have HY4 := Lib.hid (Bk.later HY3.out hb)
      have HB4 := Lib.hid (HB3.out.trans (hb.mono HB3.out.size))
      clear hb f0 f1 f2 g0 g1 g2
      obtain ⟨f0, f1, f2⟩ := bk3 HX4.out
      obtain ⟨g0, g1, g2⟩ := bk3 HY4.out
      go_wp2_with fail
      refine (KB2.out HLB.out _ HB4.out).mono ?_
      rintro e w5 ⟨rfl, hb⟩
      have HX5 := Lib.hid (Bk.later HX4.out hb)
      have HY5 := Lib.hid (Bk.later HY4.out hb)
      have HB5 := Lib.hid (HB4.out.trans (hb.mono HB4.out.size))
      clear hb f0 f1 f2 g0 g1 g2
      obtain ⟨f0, f1, f2⟩ := bk3 HX5.out
      obtain ⟨g0, g1, g2⟩ := bk3 HY5.out
      by_cases ea : a.err = 0
      · by_cases eb : b.err = 0
        · have HEA := Lib.hid ea
          have HEB := Lib.hid eb
          rw [ea, eb]
          clear ea eb
          have KAB : Hid (∀ wz, Below w.heap.size w wz → Calls Tryz.prog 14 #[.agg #[c0, c1, c2], .agg #[d0, d1, d2]] wz (TrP (decide (a = b)) wz)) := Lib.hid (fun wz h => same_any (HA.out.later h) (HBB.out.later h) HLA.out.sized.1 HLA.out.sized.2.1 (fun x hx => (HLA.out.sized.2.2.1 x hx).2.1) (fun x hx => (HLA.out.sized.2.2.2 x hx).2))
          have KAA : Hid (∀ wz, Below w.heap.size w wz → Calls Tryz.prog 14 #[.agg #[c0, c1, c2], .agg #[c0, c1, c2]] wz (TrP true wz)) := Lib.hid (fun wz h => by
            have k := same_any (HA.out.later h) (HA.out.later h) HLA.out.sized.1 HLA.out.sized.2.1 (fun x hx => (HLA.out.sized.2.2.1 x hx).2.1) (fun x hx => (HLA.out.sized.2.2.2 x hx).2)
            rwa [decide_eq_true (rfl : a = a)] at k)
          have KBA : Hid (∀ wz, Below w.heap.size w wz → Calls Tryz.prog 14 #[.agg #[d0, d1, d2], .agg #[c0, c1, c2]] wz (TrP (decide (a = b)) wz)) := Lib.hid (fun wz h => by
            have k := same_any (HBB.out.later h) (HA.out.later h) HLB.out.sized.1 HLB.out.sized.2.1 (fun x hx => (HLB.out.sized.2.2.1 x hx).2.1) (fun x hx => (HLB.out.sized.2.2.2 x hx).2)
            rwa [show decide (b = a) = decide (a = b) from decide_eq_decide.2 ⟨Eq.symm, Eq.symm⟩] at k)
          have hD : (a.out.toList == b.out.toList) = decide (a = b) := by
            rw [bytes_same]
            exact decide_eq_decide.2 ⟨fun h => out_inj HLA.out.sized HLB.out.sized HA.out.held HBB.out.held HEA.out HEB.out h, fun h => by rw [h]⟩
          have hlen : a.out.size ≤ 8192 := out_len HEA.out
          have hl2 : decide ((a.out.size : Int) ≤ 8192) = true := by rw [decide_eq_true_iff]; omega
          clear hlen
          generalize decide (a = b) = D at *
          generalize a.out = s1 at *
          generalize b.out = s2 at *
          clear KW KL1 KL2 KB1 KB2 HA HBB HLA HLB HEA HEB
          go_upto_region 9 with fail
          clear f0 f1 f2 g0 g1 g2
          cases D with
          | true =>
            have hD' : s1.toList = s2.toList := by rwa [beq_iff_eq] at hD
            have HQ0 := Lib.hid (show Below w.heap.size w w5.drew from HB5.out.drew)
            have HP0 := Lib.hid (show Bk w5.drew w.heap.size #[c0, c1, c2] 26 from HX5.out)
            have HR0 := Lib.hid (show Bk w5.drew (w.heap.size + 1) #[d0, d1, d2] 26 from HY5.out)
            have mkS : Hid (∀ wz, Bk wz w.heap.size #[c0, c1, c2] 26 → Bk wz (w.heap.size + 1) #[d0, d1, d2] 26 → wz.cell? ⟨w.heap.size, 0, none⟩ = some c0 ∧ wz.cell? ⟨w.heap.size, 1, none⟩ = some c1 ∧ wz.cell? ⟨w.heap.size, 2, none⟩ = some c2 ∧ wz.cell? ⟨w.heap.size + 1, 0, none⟩ = some d0 ∧ wz.cell? ⟨w.heap.size + 1, 1, none⟩ = some d1 ∧ wz.cell? ⟨w.heap.size + 1, 2, none⟩ = some d2 ∧ Hid True) := Lib.hid (fun wz h k => ⟨(bk3 h).1, (bk3 h).2.1, (bk3 h).2.2, (bk3 k).1, (bk3 k).2.1, (bk3 k).2.2, Lib.hid True.intro⟩)
            refine wp_region_held_drew (S := fun wz => wz.cell? ⟨w.heap.size, 0, none⟩ = some c0 ∧ wz.cell? ⟨w.heap.size, 1, none⟩ = some c1 ∧ wz.cell? ⟨w.heap.size, 2, none⟩ = some c2 ∧ wz.cell? ⟨w.heap.size + 1, 0, none⟩ = some d0 ∧ wz.cell? ⟨w.heap.size + 1, 1, none⟩ = some d1 ∧ wz.cell? ⟨w.heap.size + 1, 2, none⟩ = some d2 ∧ Hid True) (by kernel_rfl) (mkS.out _ HP0.out HR0.out) (fun hHeld => ?_)
            generalize w5.drew = wc0 at *
            refine wpAnyH_take (i := 0) (oi := ⟨some 35, _, _, _, _, _⟩) (v := ?_) rfl (by kernel_rfl) (by kernel_rfl) (by kernel_rfl) (fun _ _ _ h => h) (Or.inl ⟨by rfl, by (intro w hSw; (try dsimp only at hSw); go_simp; try with_reducible rfl)⟩) hHeld ?_
            try simp only [Act.put, List.setIfInBounds_toArray, List.set_cons_zero, List.set_cons_succ]
            refine wpAnyH_take (i := 1) (oi := ⟨some 36, _, _, _, _, _⟩) (v := ?_) rfl (by kernel_rfl) (by kernel_rfl) (by kernel_rfl) (fun _ _ _ h => h) (Or.inl ⟨by rfl, by (intro w hSw; (try dsimp only at hSw); go_simp; try with_reducible rfl)⟩) hHeld ?_
            try simp only [Act.put, List.setIfInBounds_toArray, List.set_cons_zero, List.set_cons_succ]
            refine wpAnyH_take (i := 2) (oi := ⟨some 37, _, _, _, _, _⟩) (v := ?_) rfl (by kernel_rfl) (by kernel_rfl) (by kernel_rfl) (fun _ _ _ h => h) (Or.inl ⟨by rfl, by (intro w hSw; (try dsimp only at hSw); go_simp; try with_reducible rfl)⟩) hHeld ?_
            try simp only [Act.put, List.setIfInBounds_toArray, List.set_cons_zero, List.set_cons_succ]
            refine wpAnyH_take (i := 3) (oi := ⟨some 38, _, _, _, _, _⟩) (v := ?_) rfl (by kernel_rfl) (by kernel_rfl) (by kernel_rfl) (fun _ _ _ h => h) (Or.inl ⟨by rfl, by (intro w hSw; (try dsimp only at hSw); go_simp; try with_reducible rfl)⟩) hHeld ?_
            try simp only [Act.put, List.setIfInBounds_toArray, List.set_cons_zero, List.set_cons_succ]
            refine wpAnyH_take (i := 4) (oi := ⟨some 39, _, _, _, _, _⟩) (v := ?_) rfl (by kernel_rfl) (by kernel_rfl) (by kernel_rfl) (fun _ _ _ h => h) (Or.inl ⟨by rfl, by (intro w hSw; (try dsimp only at hSw); go_simp; try with_reducible rfl)⟩) hHeld ?_
            try simp only [Act.put, List.setIfInBounds_toArray, List.set_cons_zero, List.set_cons_succ]
            refine wpAnyH_ready (rs := [5]) (by kernel_rfl) (by simp) ?_
            refine AllReadyH.cons (o := ⟨some 40, _, _, _, _, _⟩) rfl (fun K hK => ?_) ?_
            · go_simp
              refine (KAB.out _ HQ0.out).mono ?_
              rintro ze wc1 ⟨rfl, hbn⟩
              try go_simp
              have HP1 := Lib.hid (Bk.later HP0.out hbn)
              have HR1 := Lib.hid (Bk.later HR0.out hbn)
              have HQ1 := Lib.hid (HQ0.out.trans (hbn.mono HQ0.out.size))
              refine hK.out _ _ (mkS.out _ HP1.out HR1.out) (fun hHeld2 => ?_)
              clear hK K hHeld
              have hHeld := hHeld2
              clear hHeld2
              clear hbn
              try simp only [Act.put, List.setIfInBounds_toArray, List.set_cons_zero, List.set_cons_succ]
              refine wpAnyH_take (i := 6) (oi := ⟨some 41, _, _, _, _, _⟩) (v := ?_) rfl (by kernel_rfl) (by kernel_rfl) (by kernel_rfl) (fun _ _ _ h => h) (Or.inl ⟨by rfl, by (intro w hSw; (try dsimp only at hSw); go_simp; try with_reducible rfl)⟩) hHeld ?_
              try simp only [Act.put, List.setIfInBounds_toArray, List.set_cons_zero, List.set_cons_succ]
              refine wpAnyH_take (i := 7) (oi := ⟨some 42, _, _, _, _, _⟩) (v := ?_) rfl (by kernel_rfl) (by kernel_rfl) (by kernel_rfl) (fun _ _ _ h => h) (Or.inl ⟨by rfl, by (intro w hSw; (try dsimp only at hSw); go_simp; try with_reducible rfl)⟩) hHeld ?_
              try simp only [Act.put, List.setIfInBounds_toArray, List.set_cons_zero, List.set_cons_succ]
              refine wpAnyH_take (i := 8) (oi := ⟨some 43, _, _, _, _, _⟩) (v := ?_) rfl (by kernel_rfl) (by kernel_rfl) (by kernel_rfl) (fun _ _ _ h => h) (Or.inl ⟨by rfl, by (intro w hSw; (try dsimp only at hSw); go_simp; try with_reducible rfl)⟩) hHeld ?_
              try simp only [Act.put, List.setIfInBounds_toArray, List.set_cons_zero, List.set_cons_succ]
              refine wpAnyH_take (i := 9) (oi := ⟨some 44, _, _, _, _, _⟩) (v := ?_) rfl (by kernel_rfl) (by kernel_rfl) (by kernel_rfl) (fun _ _ _ h => h) (Or.inl ⟨by rfl, by (intro w hSw; (try dsimp only at hSw); go_simp; try with_reducible rfl)⟩) hHeld ?_
              try simp only [Act.put, List.setIfInBounds_toArray, List.set_cons_zero, List.set_cons_succ]
              refine wpAnyH_ready (rs := [10]) (by kernel_rfl) (by simp) ?_
              refine AllReadyH.cons (o := ⟨some 45, _, _, _, _, _⟩) rfl (fun K hK => ?_) ?_
              · go_simp
                refine (KAA.out _ HQ1.out).mono ?_
                rintro ze wc2 ⟨rfl, hbn⟩
                try go_simp
                have HP2 := Lib.hid (Bk.later HP1.out hbn)
                have HR2 := Lib.hid (Bk.later HR1.out hbn)
                have HQ2 := Lib.hid (HQ1.out.trans (hbn.mono HQ1.out.size))
                refine hK.out _ _ (mkS.out _ HP2.out HR2.out) (fun hHeld2 => ?_)
                clear hK K hHeld
                have hHeld := hHeld2
                clear hHeld2
                clear hbn
                try simp only [Act.put, List.setIfInBounds_toArray, List.set_cons_zero, List.set_cons_succ]
                refine wpAnyH_take (i := 11) (oi := ⟨some 46, _, _, _, _, _⟩) (v := ?_) rfl (by kernel_rfl) (by kernel_rfl) (by kernel_rfl) (fun _ _ _ h => h) (Or.inl ⟨by rfl, by (intro w hSw; (try dsimp only at hSw); go_simp; try with_reducible rfl)⟩) hHeld ?_
                try simp only [Act.put, List.setIfInBounds_toArray, List.set_cons_zero, List.set_cons_succ]
                refine wpAnyH_take (i := 12) (oi := ⟨some 47, _, _, _, _, _⟩) (v := ?_) rfl (by kernel_rfl) (by kernel_rfl) (by kernel_rfl) (fun _ _ _ h => h) (Or.inl ⟨by rfl, by (intro w hSw; (try dsimp only at hSw); go_simp; try with_reducible rfl)⟩) hHeld ?_
                try simp only [Act.put, List.setIfInBounds_toArray, List.set_cons_zero, List.set_cons_succ]
                refine wpAnyH_take (i := 13) (oi := ⟨some 48, _, _, _, _, _⟩) (v := ?_) rfl (by kernel_rfl) (by kernel_rfl) (by kernel_rfl) (fun _ _ _ h => h) (Or.inl ⟨by rfl, by (intro w hSw; (try dsimp only at hSw); go_simp; try with_reducible rfl)⟩) hHeld ?_
                try simp only [Act.put, List.setIfInBounds_toArray, List.set_cons_zero, List.set_cons_succ]
                refine wpAnyH_take (i := 14) (oi := ⟨some 49, _, _, _, _, _⟩) (v := ?_) rfl (by kernel_rfl) (by kernel_rfl) (by kernel_rfl) (fun _ _ _ h => h) (Or.inl ⟨by rfl, by (intro w hSw; (try dsimp only at hSw); go_simp; try with_reducible rfl)⟩) hHeld ?_
                try simp only [Act.put, List.setIfInBounds_toArray, List.set_cons_zero, List.set_cons_succ]
                refine wpAnyH_take (i := 16) (oi := ⟨some 51, _, _, _, _, _⟩) (v := ?_) rfl (by kernel_rfl) (by kernel_rfl) (by kernel_rfl) (fun _ _ _ h => h) (Or.inl ⟨by rfl, by (intro w hSw; (try dsimp only at hSw); go_simp; try with_reducible rfl)⟩) hHeld ?_
                try simp only [Act.put, List.setIfInBounds_toArray, List.set_cons_zero, List.set_cons_succ]
                refine wpAnyH_take (i := 17) (oi := ⟨some 52, _, _, _, _, _⟩) (v := ?_) rfl (by kernel_rfl) (by kernel_rfl) (by kernel_rfl) (fun _ _ _ h => h) (Or.inl ⟨by rfl, by (intro w hSw; (try dsimp only at hSw); go_simp; try with_reducible rfl)⟩) hHeld ?_
                try simp only [Act.put, List.setIfInBounds_toArray, List.set_cons_zero, List.set_cons_succ]
                refine wpAnyH_ready (rs := [15]) (by kernel_rfl) (by simp) ?_
                refine AllReadyH.cons (o := ⟨some 50, _, _, _, _, _⟩) rfl (fun K hK => ?_) ?_
                · go_simp
                  refine (KAB.out _ HQ2.out).mono ?_
                  rintro ze wc3 ⟨rfl, hbn⟩
                  try go_simp
                  have HP3 := Lib.hid (Bk.later HP2.out hbn)
                  have HR3 := Lib.hid (Bk.later HR2.out hbn)
                  have HQ3 := Lib.hid (HQ2.out.trans (hbn.mono HQ2.out.size))
                  refine hK.out _ _ (mkS.out _ HP3.out HR3.out) (fun hHeld2 => ?_)
                  clear hK K hHeld
                  have hHeld := hHeld2
                  clear hHeld2
                  clear hbn
                  try simp only [Act.put, List.setIfInBounds_toArray, List.set_cons_zero, List.set_cons_succ]
                  refine wpAnyH_ready (rs := [18]) (by kernel_rfl) (by simp) ?_
                  refine AllReadyH.cons (o := ⟨some 53, _, _, _, _, _⟩) rfl (fun K hK => ?_) ?_
                  · go_simp
                    refine (KBA.out _ HQ3.out).mono ?_
                    rintro ze wc4 ⟨rfl, hbn⟩
                    try go_simp
                    have HP4 := Lib.hid (Bk.later HP3.out hbn)
                    have HR4 := Lib.hid (Bk.later HR3.out hbn)
                    have HQ4 := Lib.hid (HQ3.out.trans (hbn.mono HQ3.out.size))
                    refine hK.out _ _ (mkS.out _ HP4.out HR4.out) (fun hHeld2 => ?_)
                    clear hK K hHeld
                    have hHeld := hHeld2
                    clear hHeld2
                    clear hbn
                    try simp only [Act.put, List.setIfInBounds_toArray, List.set_cons_zero, List.set_cons_succ]
                    refine wpAnyH_take (i := 19) (oi := ⟨some 54, _, _, _, _, _⟩) (v := ?_) rfl (by kernel_rfl) (by kernel_rfl) (by kernel_rfl) (fun _ _ _ h => h) (Or.inl ⟨by rfl, by (intro w hSw; (try dsimp only at hSw); go_simp; try with_reducible rfl)⟩) hHeld ?_
                    try simp only [Act.put, List.setIfInBounds_toArray, List.set_cons_zero, List.set_cons_succ]
                    refine wpAnyH_take (i := 20) (oi := ⟨some 55, _, _, _, _, _⟩) (v := ?_) rfl (by kernel_rfl) (by kernel_rfl) (by kernel_rfl) (fun _ _ _ h => h) (Or.inl ⟨by rfl, by (intro w hSw; (try dsimp only at hSw); go_simp; try with_reducible rfl)⟩) hHeld ?_
                    try simp only [Act.put, List.setIfInBounds_toArray, List.set_cons_zero, List.set_cons_succ]
                    refine wpAnyH_take (i := 21) (oi := ⟨some 56, _, _, _, _, _⟩) (v := ?_) rfl (by kernel_rfl) (by kernel_rfl) (by kernel_rfl) (fun _ _ _ h => h) (Or.inl ⟨by rfl, by (intro w hSw; (try dsimp only at hSw); go_simp; try with_reducible rfl)⟩) hHeld ?_
                    try simp only [Act.put, List.setIfInBounds_toArray, List.set_cons_zero, List.set_cons_succ]
                    refine wpAnyH_take (i := 22) (oi := ⟨some 57, _, _, _, _, _⟩) (v := ?_) rfl (by kernel_rfl) (by kernel_rfl) (by kernel_rfl) (fun _ _ _ h => h) (Or.inl ⟨by rfl, by (intro w hSw; (try dsimp only at hSw); go_simp; try with_reducible rfl)⟩) hHeld ?_
                    try simp only [Act.put, List.setIfInBounds_toArray, List.set_cons_zero, List.set_cons_succ]
                    refine wpAnyH_take (i := 23) (oi := ⟨some 58, _, _, _, _, _⟩) (v := ?_) rfl (by kernel_rfl) (by kernel_rfl) (by kernel_rfl) (fun _ _ _ h => h) (Or.inl ⟨by rfl, by (intro w hSw; (try dsimp only at hSw); go_simp; try with_reducible rfl)⟩) hHeld ?_
                    try simp only [Act.put, List.setIfInBounds_toArray, List.set_cons_zero, List.set_cons_succ]
                    refine wpAnyH_take (i := 24) (oi := ⟨some 59, _, _, _, _, _⟩) (v := ?_) rfl (by kernel_rfl) (by kernel_rfl) (by kernel_rfl) (fun _ _ _ h => h) (Or.inl ⟨by rfl, by (intro w hSw; (try dsimp only at hSw); go_simp; try with_reducible rfl)⟩) hHeld ?_
                    try simp only [Act.put, List.setIfInBounds_toArray, List.set_cons_zero, List.set_cons_succ]
                    refine wpAnyH_take (i := 25) (oi := ⟨some 60, _, _, _, _, _⟩) (v := ?_) rfl (by kernel_rfl) (by kernel_rfl) (by kernel_rfl) (fun _ _ _ h => h) (Or.inl ⟨by rfl, by (intro w hSw; (try dsimp only at hSw); go_simp; try with_reducible rfl)⟩) hHeld ?_
                    try simp only [Act.put, List.setIfInBounds_toArray, List.set_cons_zero, List.set_cons_succ]
                    refine wpAnyH_take (i := 26) (oi := ⟨some 4, _, _, _, _, _⟩) (v := ?_) rfl (by kernel_rfl) (by kernel_rfl) (by kernel_rfl) (fun _ _ _ h => h) (Or.inl ⟨by rfl, by (intro w hSw; (try dsimp only at hSw); go_simp; try with_reducible rfl)⟩) hHeld ?_
                    try simp only [Act.put, List.setIfInBounds_toArray, List.set_cons_zero, List.set_cons_succ]
                    refine wpAnyH_done (by kernel_rfl) ?_ _
                    simp only [Exit.then]
                    apply_assumption
                    try go_wp2
                    go_ret
                    exact ⟨rfl, HQ4.out⟩
                  · exact AllReadyH.nil
                · exact AllReadyH.nil
              · exact AllReadyH.nil
            · exact AllReadyH.nil
          | false =>
            have hD' : s1.toList ≠ s2.toList := by rwa [beq_eq_false_iff_ne] at hD
            have HQ0 := Lib.hid (show Below w.heap.size w w5.drew from HB5.out.drew)
            have HP0 := Lib.hid (show Bk w5.drew w.heap.size #[c0, c1, c2] 26 from HX5.out)
            have HR0 := Lib.hid (show Bk w5.drew (w.heap.size + 1) #[d0, d1, d2] 26 from HY5.out)
            have mkS : Hid (∀ wz, Bk wz w.heap.size #[c0, c1, c2] 26 → Bk wz (w.heap.size + 1) #[d0, d1, d2] 26 → wz.cell? ⟨w.heap.size, 0, none⟩ = some c0 ∧ wz.cell? ⟨w.heap.size, 1, none⟩ = some c1 ∧ wz.cell? ⟨w.heap.size, 2, none⟩ = some c2 ∧ wz.cell? ⟨w.heap.size + 1, 0, none⟩ = some d0 ∧ wz.cell? ⟨w.heap.size + 1, 1, none⟩ = some d1 ∧ wz.cell? ⟨w.heap.size + 1, 2, none⟩ = some d2 ∧ Hid True) := Lib.hid (fun wz h k => ⟨(bk3 h).1, (bk3 h).2.1, (bk3 h).2.2, (bk3 k).1, (bk3 k).2.1, (bk3 k).2.2, Lib.hid True.intro⟩)
            refine wp_region_held_drew (S := fun wz => wz.cell? ⟨w.heap.size, 0, none⟩ = some c0 ∧ wz.cell? ⟨w.heap.size, 1, none⟩ = some c1 ∧ wz.cell? ⟨w.heap.size, 2, none⟩ = some c2 ∧ wz.cell? ⟨w.heap.size + 1, 0, none⟩ = some d0 ∧ wz.cell? ⟨w.heap.size + 1, 1, none⟩ = some d1 ∧ wz.cell? ⟨w.heap.size + 1, 2, none⟩ = some d2 ∧ Hid True) (by kernel_rfl) (mkS.out _ HP0.out HR0.out) (fun hHeld => ?_)
            generalize w5.drew = wc0 at *
            refine wpAnyH_take (i := 0) (oi := ⟨some 35, _, _, _, _, _⟩) (v := ?_) rfl (by kernel_rfl) (by kernel_rfl) (by kernel_rfl) (fun _ _ _ h => h) (Or.inl ⟨by rfl, by (intro w hSw; (try dsimp only at hSw); go_simp; try with_reducible rfl)⟩) hHeld ?_
            try simp only [Act.put, List.setIfInBounds_toArray, List.set_cons_zero, List.set_cons_succ]
            refine wpAnyH_take (i := 1) (oi := ⟨some 36, _, _, _, _, _⟩) (v := ?_) rfl (by kernel_rfl) (by kernel_rfl) (by kernel_rfl) (fun _ _ _ h => h) (Or.inl ⟨by rfl, by (intro w hSw; (try dsimp only at hSw); go_simp; try with_reducible rfl)⟩) hHeld ?_
            try simp only [Act.put, List.setIfInBounds_toArray, List.set_cons_zero, List.set_cons_succ]
            refine wpAnyH_take (i := 2) (oi := ⟨some 37, _, _, _, _, _⟩) (v := ?_) rfl (by kernel_rfl) (by kernel_rfl) (by kernel_rfl) (fun _ _ _ h => h) (Or.inl ⟨by rfl, by (intro w hSw; (try dsimp only at hSw); go_simp; try with_reducible rfl)⟩) hHeld ?_
            try simp only [Act.put, List.setIfInBounds_toArray, List.set_cons_zero, List.set_cons_succ]
            refine wpAnyH_take (i := 3) (oi := ⟨some 38, _, _, _, _, _⟩) (v := ?_) rfl (by kernel_rfl) (by kernel_rfl) (by kernel_rfl) (fun _ _ _ h => h) (Or.inl ⟨by rfl, by (intro w hSw; (try dsimp only at hSw); go_simp; try with_reducible rfl)⟩) hHeld ?_
            try simp only [Act.put, List.setIfInBounds_toArray, List.set_cons_zero, List.set_cons_succ]
            refine wpAnyH_take (i := 4) (oi := ⟨some 39, _, _, _, _, _⟩) (v := ?_) rfl (by kernel_rfl) (by kernel_rfl) (by kernel_rfl) (fun _ _ _ h => h) (Or.inl ⟨by rfl, by (intro w hSw; (try dsimp only at hSw); go_simp; try with_reducible rfl)⟩) hHeld ?_
            try simp only [Act.put, List.setIfInBounds_toArray, List.set_cons_zero, List.set_cons_succ]
            refine wpAnyH_ready (rs := [5]) (by kernel_rfl) (by simp) ?_
            refine AllReadyH.cons (o := ⟨some 40, _, _, _, _, _⟩) rfl (fun K hK => ?_) ?_
            · go_simp
              refine (KAB.out _ HQ0.out).mono ?_
              rintro ze wc1 ⟨rfl, hbn⟩
              try go_simp
              have HP1 := Lib.hid (Bk.later HP0.out hbn)
              have HR1 := Lib.hid (Bk.later HR0.out hbn)
              have HQ1 := Lib.hid (HQ0.out.trans (hbn.mono HQ0.out.size))
              refine hK.out _ _ (mkS.out _ HP1.out HR1.out) (fun hHeld2 => ?_)
              clear hK K hHeld
              have hHeld := hHeld2
              clear hHeld2
              clear hbn
              try simp only [Act.put, List.setIfInBounds_toArray, List.set_cons_zero, List.set_cons_succ]
              refine wpAnyH_take (i := 6) (oi := ⟨some 41, _, _, _, _, _⟩) (v := ?_) rfl (by kernel_rfl) (by kernel_rfl) (by kernel_rfl) (fun _ _ _ h => h) (Or.inl ⟨by rfl, by (intro w hSw; (try dsimp only at hSw); go_simp; try with_reducible rfl)⟩) hHeld ?_
              try simp only [Act.put, List.setIfInBounds_toArray, List.set_cons_zero, List.set_cons_succ]
              refine wpAnyH_take (i := 7) (oi := ⟨some 42, _, _, _, _, _⟩) (v := ?_) rfl (by kernel_rfl) (by kernel_rfl) (by kernel_rfl) (fun _ _ _ h => h) (Or.inl ⟨by rfl, by (intro w hSw; (try dsimp only at hSw); go_simp; try with_reducible rfl)⟩) hHeld ?_
              try simp only [Act.put, List.setIfInBounds_toArray, List.set_cons_zero, List.set_cons_succ]
              refine wpAnyH_take (i := 8) (oi := ⟨some 43, _, _, _, _, _⟩) (v := ?_) rfl (by kernel_rfl) (by kernel_rfl) (by kernel_rfl) (fun _ _ _ h => h) (Or.inl ⟨by rfl, by (intro w hSw; (try dsimp only at hSw); go_simp; try with_reducible rfl)⟩) hHeld ?_
              try simp only [Act.put, List.setIfInBounds_toArray, List.set_cons_zero, List.set_cons_succ]
              refine wpAnyH_take (i := 9) (oi := ⟨some 44, _, _, _, _, _⟩) (v := ?_) rfl (by kernel_rfl) (by kernel_rfl) (by kernel_rfl) (fun _ _ _ h => h) (Or.inl ⟨by rfl, by (intro w hSw; (try dsimp only at hSw); go_simp; try with_reducible rfl)⟩) hHeld ?_
              try simp only [Act.put, List.setIfInBounds_toArray, List.set_cons_zero, List.set_cons_succ]
              refine wpAnyH_ready (rs := [10]) (by kernel_rfl) (by simp) ?_
              refine AllReadyH.cons (o := ⟨some 45, _, _, _, _, _⟩) rfl (fun K hK => ?_) ?_
              · go_simp
                refine (KAA.out _ HQ1.out).mono ?_
                rintro ze wc2 ⟨rfl, hbn⟩
                try go_simp
                have HP2 := Lib.hid (Bk.later HP1.out hbn)
                have HR2 := Lib.hid (Bk.later HR1.out hbn)
                have HQ2 := Lib.hid (HQ1.out.trans (hbn.mono HQ1.out.size))
                refine hK.out _ _ (mkS.out _ HP2.out HR2.out) (fun hHeld2 => ?_)
                clear hK K hHeld
                have hHeld := hHeld2
                clear hHeld2
                clear hbn
                try simp only [Act.put, List.setIfInBounds_toArray, List.set_cons_zero, List.set_cons_succ]
                refine wpAnyH_take (i := 11) (oi := ⟨some 46, _, _, _, _, _⟩) (v := ?_) rfl (by kernel_rfl) (by kernel_rfl) (by kernel_rfl) (fun _ _ _ h => h) (Or.inl ⟨by rfl, by (intro w hSw; (try dsimp only at hSw); go_simp; try with_reducible rfl)⟩) hHeld ?_
                try simp only [Act.put, List.setIfInBounds_toArray, List.set_cons_zero, List.set_cons_succ]
                refine wpAnyH_take (i := 12) (oi := ⟨some 47, _, _, _, _, _⟩) (v := ?_) rfl (by kernel_rfl) (by kernel_rfl) (by kernel_rfl) (fun _ _ _ h => h) (Or.inl ⟨by rfl, by (intro w hSw; (try dsimp only at hSw); go_simp; try with_reducible rfl)⟩) hHeld ?_
                try simp only [Act.put, List.setIfInBounds_toArray, List.set_cons_zero, List.set_cons_succ]
                refine wpAnyH_take (i := 13) (oi := ⟨some 48, _, _, _, _, _⟩) (v := ?_) rfl (by kernel_rfl) (by kernel_rfl) (by kernel_rfl) (fun _ _ _ h => h) (Or.inl ⟨by rfl, by (intro w hSw; (try dsimp only at hSw); go_simp; try with_reducible rfl)⟩) hHeld ?_
                try simp only [Act.put, List.setIfInBounds_toArray, List.set_cons_zero, List.set_cons_succ]
                refine wpAnyH_take (i := 14) (oi := ⟨some 49, _, _, _, _, _⟩) (v := ?_) rfl (by kernel_rfl) (by kernel_rfl) (by kernel_rfl) (fun _ _ _ h => h) (Or.inl ⟨by rfl, by (intro w hSw; (try dsimp only at hSw); go_simp; try with_reducible rfl)⟩) hHeld ?_
                try simp only [Act.put, List.setIfInBounds_toArray, List.set_cons_zero, List.set_cons_succ]
                refine wpAnyH_take (i := 16) (oi := ⟨some 51, _, _, _, _, _⟩) (v := ?_) rfl (by kernel_rfl) (by kernel_rfl) (by kernel_rfl) (fun _ _ _ h => h) (Or.inl ⟨by rfl, by (intro w hSw; (try dsimp only at hSw); go_simp; try with_reducible rfl)⟩) hHeld ?_
                try simp only [Act.put, List.setIfInBounds_toArray, List.set_cons_zero, List.set_cons_succ]
                refine wpAnyH_take (i := 17) (oi := ⟨some 52, _, _, _, _, _⟩) (v := ?_) rfl (by kernel_rfl) (by kernel_rfl) (by kernel_rfl) (fun _ _ _ h => h) (Or.inl ⟨by rfl, by (intro w hSw; (try dsimp only at hSw); go_simp; try with_reducible rfl)⟩) hHeld ?_
                try simp only [Act.put, List.setIfInBounds_toArray, List.set_cons_zero, List.set_cons_succ]
                refine wpAnyH_ready (rs := [15]) (by kernel_rfl) (by simp) ?_
                refine AllReadyH.cons (o := ⟨some 50, _, _, _, _, _⟩) rfl (fun K hK => ?_) ?_
                · go_simp
                  refine (KAB.out _ HQ2.out).mono ?_
                  rintro ze wc3 ⟨rfl, hbn⟩
                  try go_simp
                  have HP3 := Lib.hid (Bk.later HP2.out hbn)
                  have HR3 := Lib.hid (Bk.later HR2.out hbn)
                  have HQ3 := Lib.hid (HQ2.out.trans (hbn.mono HQ2.out.size))
                  refine hK.out _ _ (mkS.out _ HP3.out HR3.out) (fun hHeld2 => ?_)
                  clear hK K hHeld
                  have hHeld := hHeld2
                  clear hHeld2
                  clear hbn
                  try simp only [Act.put, List.setIfInBounds_toArray, List.set_cons_zero, List.set_cons_succ]
                  refine wpAnyH_ready (rs := [18]) (by kernel_rfl) (by simp) ?_
                  refine AllReadyH.cons (o := ⟨some 53, _, _, _, _, _⟩) rfl (fun K hK => ?_) ?_
                  · go_simp
                    refine (KBA.out _ HQ3.out).mono ?_
                    rintro ze wc4 ⟨rfl, hbn⟩
                    try go_simp
                    have HP4 := Lib.hid (Bk.later HP3.out hbn)
                    have HR4 := Lib.hid (Bk.later HR3.out hbn)
                    have HQ4 := Lib.hid (HQ3.out.trans (hbn.mono HQ3.out.size))
                    refine hK.out _ _ (mkS.out _ HP4.out HR4.out) (fun hHeld2 => ?_)
                    clear hK K hHeld
                    have hHeld := hHeld2
                    clear hHeld2
                    clear hbn
                    try simp only [Act.put, List.setIfInBounds_toArray, List.set_cons_zero, List.set_cons_succ]
                    refine wpAnyH_take (i := 19) (oi := ⟨some 54, _, _, _, _, _⟩) (v := ?_) rfl (by kernel_rfl) (by kernel_rfl) (by kernel_rfl) (fun _ _ _ h => h) (Or.inl ⟨by rfl, by (intro w hSw; (try dsimp only at hSw); go_simp; try with_reducible rfl)⟩) hHeld ?_
                    try simp only [Act.put, List.setIfInBounds_toArray, List.set_cons_zero, List.set_cons_succ]
                    refine wpAnyH_take (i := 20) (oi := ⟨some 55, _, _, _, _, _⟩) (v := ?_) rfl (by kernel_rfl) (by kernel_rfl) (by kernel_rfl) (fun _ _ _ h => h) (Or.inl ⟨by rfl, by (intro w hSw; (try dsimp only at hSw); go_simp; try with_reducible rfl)⟩) hHeld ?_
                    try simp only [Act.put, List.setIfInBounds_toArray, List.set_cons_zero, List.set_cons_succ]
                    refine wpAnyH_take (i := 21) (oi := ⟨some 56, _, _, _, _, _⟩) (v := ?_) rfl (by kernel_rfl) (by kernel_rfl) (by kernel_rfl) (fun _ _ _ h => h) (Or.inl ⟨by rfl, by (intro w hSw; (try dsimp only at hSw); go_simp; try with_reducible rfl)⟩) hHeld ?_
                    try simp only [Act.put, List.setIfInBounds_toArray, List.set_cons_zero, List.set_cons_succ]
                    refine wpAnyH_take (i := 22) (oi := ⟨some 57, _, _, _, _, _⟩) (v := ?_) rfl (by kernel_rfl) (by kernel_rfl) (by kernel_rfl) (fun _ _ _ h => h) (Or.inl ⟨by rfl, by (intro w hSw; (try dsimp only at hSw); go_simp; try with_reducible rfl)⟩) hHeld ?_
                    try simp only [Act.put, List.setIfInBounds_toArray, List.set_cons_zero, List.set_cons_succ]
                    refine wpAnyH_take (i := 23) (oi := ⟨some 58, _, _, _, _, _⟩) (v := ?_) rfl (by kernel_rfl) (by kernel_rfl) (by kernel_rfl) (fun _ _ _ h => h) (Or.inl ⟨by rfl, by (intro w hSw; (try dsimp only at hSw); go_simp; try with_reducible rfl)⟩) hHeld ?_
                    try simp only [Act.put, List.setIfInBounds_toArray, List.set_cons_zero, List.set_cons_succ]
                    refine wpAnyH_take (i := 24) (oi := ⟨some 59, _, _, _, _, _⟩) (v := ?_) rfl (by kernel_rfl) (by kernel_rfl) (by kernel_rfl) (fun _ _ _ h => h) (Or.inl ⟨by rfl, by (intro w hSw; (try dsimp only at hSw); go_simp; try with_reducible rfl)⟩) hHeld ?_
                    try simp only [Act.put, List.setIfInBounds_toArray, List.set_cons_zero, List.set_cons_succ]
                    refine wpAnyH_take (i := 25) (oi := ⟨some 60, _, _, _, _, _⟩) (v := ?_) rfl (by kernel_rfl) (by kernel_rfl) (by kernel_rfl) (fun _ _ _ h => h) (Or.inl ⟨by rfl, by (intro w hSw; (try dsimp only at hSw); go_simp; try with_reducible rfl)⟩) hHeld ?_
                    try simp only [Act.put, List.setIfInBounds_toArray, List.set_cons_zero, List.set_cons_succ]
                    refine wpAnyH_take (i := 26) (oi := ⟨some 4, _, _, _, _, _⟩) (v := ?_) rfl (by kernel_rfl) (by kernel_rfl) (by kernel_rfl) (fun _ _ _ h => h) (Or.inl ⟨by rfl, by (intro w hSw; (try dsimp only at hSw); go_simp; try with_reducible rfl)⟩) hHeld ?_
                    try simp only [Act.put, List.setIfInBounds_toArray, List.set_cons_zero, List.set_cons_succ]
                    refine wpAnyH_done (by kernel_rfl) ?_ _
                    simp only [Exit.then]
                    apply_assumption
                    try go_wp2
                    go_ret
                    exact ⟨rfl, HQ4.out⟩
                  · exact AllReadyH.nil
                · exact AllReadyH.nil
              · exact AllReadyH.nil
            · exact AllReadyH.nil
        · have EB : ((b.err : Int) == 0) = false := by rw [beq_eq_false_iff_ne]; omega
          have EB' : ((b.err : Int) != 0) = true := by rw [bne_iff_ne]; omega
          rw [ea]
          clear ea eb
          generalize b.err = E2 at *
          go_wp2_with fail
          go_ret
          exact ⟨rfl, HB5.out⟩
      · have EA : ((a.err : Int) == 0) = false := by rw [beq_eq_false_iff_ne]; omega
        have EA' : ((a.err : Int) != 0) = true := by rw [bne_iff_ne]; omega
        clear ea
        generalize a.err = E1 at *
        go_wp2_with fail
        go_ret
        exact ⟨rfl, HB5.out⟩
end Go.Proofs.YtjfjliobencppaaGreatDoor.Cf
