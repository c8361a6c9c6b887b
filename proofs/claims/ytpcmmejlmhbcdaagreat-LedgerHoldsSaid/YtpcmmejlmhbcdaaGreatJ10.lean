/- Died, where a print is known or there is room. -/
import Derived.Test.YtpcmmejlmhbcdaaGreatJ09
set_option linter.unusedVariables false
set_option linter.unusedSimpArgs false
namespace Go.Proofs.YtpcmmejlmhbcdaaGreat
open Go.RowKit

/-- One death more, of k that hold it. -/
def die (k : Nat) (e : En) : En := ⟨e.k, min (e.d + 1) 255, e.h || decide (k ≤ min (e.d + 1) 255)⟩
set_option maxRecDepth 100000 in
set_option maxHeartbeats 16000000 in
theorem died_any (L : List En) (q k : Nat) (hk1 : 1 ≤ k) (hk2 : k ≤ 255) (hroom : has L q = true ∨ L.length < 64) (hd : (get L q).d ≤ 1000) (o : Option Addr) (c : Nat) (hs : srt L) (hf : fit L) (hl : L.length ≤ 100000) (hq : q < top) (w : World) (hv : SlE w (.slice o L.length c) L) :
    Calls Tryz.prog 14 #[.agg #[.slice o L.length c], .agg (pc q).toArray, .int .i64 k] w fun e w' => (∃ o m c, e = .returned (.tuple #[.agg #[.slice o m c], .int .i64 0]) ∧ SlE w' (.slice o m c) (wi L (die k (get L q)))) ∧ Below w.heap.size w w' := by
  obtain ⟨W3, hW3⟩ : ∃ W3, W3 = ((w.alloc (.cells #[.slice o L.length c] 28)).alloc (.cells (pc q).toArray 24)).alloc (.cells #[.slice none 0 0] 28) := ⟨_, rfl⟩
  have hsz : (w.alloc (.cells #[.slice o L.length c] 28)).heap.size = w.heap.size + 1 := by simp
  have hsz2 : ((w.alloc (.cells #[.slice o L.length c] 28)).alloc (.cells (pc q).toArray 24)).heap.size = w.heap.size + 1 + 1 := by simp
  have hB : Below w.heap.size w W3 := by rw [hW3]; exact bt (bt (alloc_below _ _))
  have hL : W3.cell? ⟨w.heap.size, 0, none⟩ = some (.slice o L.length c) := by rw [hW3]; exact box_l (bt (alloc_below _ _))
  have hP : W3.rangeAt (w.heap.size + 1) 0 (pc q) := by
    rw [hW3, ← hsz]; exact range_alloc (alloc_below _ _)
  have hRB : W3.cell? ⟨w.heap.size + 1 + 1, 0, none⟩ = some (.slice none 0 0) := by rw [hW3, ← hsz2]; exact box_l (Below.refl _ _)
  have hRF : W3.frozen? ⟨w.heap.size + 1 + 1, 0, none⟩ = false := by rw [hW3, ← hsz2]; exact (there_new (cs := #[.slice none 0 0]) (t := 28) (Below.refl _ _) 0 (by decide)).2
  have hR1 : ∀ j, 1 ≤ j → W3.cell? ⟨w.heap.size + 1 + 1, j, none⟩ = Option.none := by rw [hW3, ← hsz2]; exact one_new _ _ _ _ (Below.refl _ _)
  have K19 : Hid (∀ W4, Below W3.heap.size W3 W4 → Calls Tryz.prog 19 #[.agg #[.slice o L.length c], .agg (pc q).toArray] W4 fun e w' => e = .returned (.agg (ec (get L q)).toArray) ∧ Below W4.heap.size W4 w') := Lib.hid (fun W4 h4 => by
    obtain ⟨o2, c2, e2, hr⟩ := ((hv.later hB).later h4).form
    cases e2
    exact get_any L hs hf (by omega) o c q hq W4 hr)
  have hgk : (get L q).k = q := get_k L q
  have K35 : Hid (Calls Tryz.prog 35 #[.agg #[.slice o L.length c], .agg (pc q).toArray] W3 fun e w' => e = .returned (.tuple #[.int .i64 (plc L q : Nat), .bool (has L q)]) ∧ Below W3.heap.size W3 w') := Lib.hid (by
    obtain ⟨o2, c2, e2, hr⟩ := (hv.later hB).form
    cases e2
    exact find_any L hs hf (by omega) o c q hq W3 hr)
  have K32 : Hid (∀ W7, Below W3.heap.size W3 W7 → Calls Tryz.prog 32 #[.agg #[.slice o L.length c], .agg (ec (die k (get L q))).toArray] W7 fun e w' => (∃ o m c, e = .returned (.agg #[.slice o m c]) ∧ SlE (w'.setCell ⟨w.heap.size + 1 + 1, 0, none⟩ (.slice o m c)) (.slice o m c) (wi L (die k (get L q)))) ∧ w'.cell? ⟨w.heap.size + 1 + 1, 0, none⟩ = some (.slice none 0 0) ∧ w'.frozen? ⟨w.heap.size + 1 + 1, 0, none⟩ = false ∧ Below w.heap.size w w') :=
    Lib.hid (fun W7 h7 => by
      obtain ⟨f1, f2⟩ := frz_later hRB hRF h7
      have hb27 : Below w.heap.size w W7 := hB.trans (h7.mono hB.size)
      refine (with_box L (die k (get L q)) _ hs hf hl (by show (get L q).k < top; rw [hgk]; exact hq) W7 (hv.later hb27) (w.heap.size + 1 + 1) f1 f2 (fun j hj => by
        have hlB := World.block_lt_of_cell? W3 _ hRB
        rw [h7.cell (p := ⟨w.heap.size + 1 + 1, j, none⟩) hlB]; exact hR1 j hj)).mono ?_
      rintro e w' ⟨h1, h2, h3, h4⟩
      exact ⟨h1, h2, h3, hb27.trans (h4.mono hb27.size)⟩)
  have HL := Lib.hid hL
  have HP := Lib.hid hP
  have hi24 := Lib.hid (info24 q)
  generalize get L q = g at *
  have hone := Lib.hid (all_oneCell_toArray (ec_one g))
  have hi46 := Lib.hid (info46 (die k g))
  have hm : min ((g.d : Int) + 1) 255 = ((min (g.d + 1) 255 : Nat) : Int) := by omega
  obtain ⟨pl, hpl⟩ : ∃ pl, pl = plc L q := ⟨_, rfl⟩
  obtain ⟨hh, hhh⟩ : ∃ hh, hh = has L q := ⟨_, rfl⟩
  rw [← hpl, ← hhh] at K35
  rw [← hhh] at hroom
  have hDIE : die k g = ⟨g.k, min (g.d + 1) 255, g.h || decide (k ≤ min (g.d + 1) 255)⟩ := rfl
  obtain ⟨md, hmd⟩ : ∃ md, md = min (g.d + 1) 255 := ⟨_, rfl⟩
  rw [← hmd] at hm hDIE
  clear hs hf hl hq hv hsz hsz2 hB hL hP hRB hRF hR1 hgk hpl hhh
  have hmd2 : md ≤ 255 := by omega
  clear hmd
  generalize L.length = n at *
  go_enter Tryz.func14, Tryz.ntmps14
  go_upto_region 1 with (fail)
  rw [← hW3]
  clear hW3
  have hl3 := HL.out
  have q1 : ¬ k = 0 := by omega
  have q2 : ¬ 255 < k := by omega
  have q4 : ¬ (k : Int) < 1 := by omega
  have e1 : IntKind.i64.wrap ((g.d : Int) + 1) = (g.d : Int) + 1 := IntWalk.i64_in _ ⟨by omega, by omega⟩
  clear hk1 hk2
  cases hh
  · skip
    have q3 : ¬ 64 ≤ n := by
      rcases hroom with h | h
      · cases h
      · omega
    clear hroom
    go_upto_region 9 with (first
      | (refine wpList_load_mid (w := W3) rfl 24 (.tmp 4) rfl (w.heap.size + 1) 0 rfl (pc q) _ HP.out Tryz.underlying24 rfl hi24.out ?_)
      | (go_at_call 35; ((with_reducible refine (K35.out).mono ?_); rintro x w5 ⟨rfl, hb5⟩; have hl5 := (hb5.cell (p := ⟨w.heap.size, 0, none⟩) (World.block_lt_of_cell? _ _ hl3)).trans hl3; have HB5 := Lib.hid hb5; clear hb5)))
    have HP5 := Lib.hid (range_later HP.out HB5.out)
    have K19' := Lib.hid (K19.out w5 HB5.out)
    go_upto_region 10 with (first
      | (refine wpList_load_mid (w := w5) rfl 24 (.tmp 4) rfl (w.heap.size + 1) 0 rfl (pc q) _ HP5.out Tryz.underlying24 rfl hi24.out ?_)
      | (go_at_call 19; ((with_reducible refine (K19'.out).mono ?_); rintro x w6 ⟨rfl, hb6⟩; have HB6 := Lib.hid hb6; clear hb6))
      | (refine wpList_store_mid (w := w6.alloc (.cells z46 46)) rfl 46 (.tmp 11) (.tmp 49) rfl w6.heap.size 0 (ec g).toArray rfl rfl (by rw [ecs]; exact there_new (cs := z46) (Below.refl _ _)) (info46s _) hone.out ?_))
    have HE := Lib.hid (EB.stored (w := w6.alloc (.cells z46 46)) g (there_new (cs := z46) (Below.refl _ _)))
    have HB36 : Hid (Below W3.heap.size W3 w6) := Lib.hid (HB5.out.trans (HB6.out.mono HB5.out.size))
    have HB7 : Hid (Below W3.heap.size W3 ((w6.alloc (.cells z46 46)).setCells w6.heap.size 0 (ec g))) := Lib.hid (below_setCells HB36.out.size _ _ (HB36.out.trans ((alloc_below w6 (.cells z46 46)).mono HB36.out.size)))
    have HL5 : Hid (W3.heap.size ≤ w6.heap.size) := Lib.hid HB36.out.size
    generalize ((w6.alloc (.cells z46 46)).setCells w6.heap.size 0 (ec g)) = W7 at *
    generalize w6.heap.size = g5 at *
    obtain ⟨c16, c17, f16, f17⟩ := HE.out.cells
    have HE8 := Lib.hid (HE.out.d md)
    have HB8 : Hid (Below W3.heap.size W3 (W7.setCell ⟨g5, 16, none⟩ (.int .i64 (md : Int)))) := Lib.hid (HB7.out.setCell HL5.out _)
    go_upto_region 11 with (fail)
    generalize W7.setCell ⟨g5, 16, none⟩ (.int .i64 (md : Int)) = W8 at *
    clear c16 c17 f16 f17
    obtain ⟨c16, c17, f16, f17⟩ := HE8.out.cells
    simp only at c16 c17
    cases hgh : g.h
    · rw [hgh] at c17 hDIE HE8
      have HE9 := Lib.hid (HE8.out.s (decide (k ≤ md)))
      have HB9 : Hid (Below W3.heap.size W3 (W8.setCell ⟨g5, 17, none⟩ (.bool (decide (k ≤ md))))) := Lib.hid (HB8.out.setCell HL5.out _)
      have hl9 : (W8.setCell ⟨g5, 17, none⟩ (.bool (decide (k ≤ md)))).cell? ⟨w.heap.size, 0, none⟩ = some (.slice o n c) := (HB9.out.cell (p := ⟨w.heap.size, 0, none⟩) (World.block_lt_of_cell? _ _ hl3)).trans hl3
      have hD : die k g = ⟨g.k, md, decide (k ≤ md)⟩ := by rw [hDIE]; simp
      have HD := Lib.hid hD
      clear hDIE hgh hD
      go_upto_region 12 with (fail)
      generalize W8.setCell ⟨g5, 17, none⟩ (.bool (decide (k ≤ md))) = W9 at *
      go_wp2_with (first
        | (refine wpList_load_mid (w := W9) rfl 46 (.tmp 11) rfl g5 0 rfl (ec (die k g)) _ (by rw [HD.out]; exact HE9.out.1) Tryz.underlying46 rfl hi46.out ?_)
        | (go_at_call 32; ((with_reducible refine (K32.out W9 HB9.out).mono ?_); rintro x w8 ⟨⟨o8, m8, c8, rfl, hsl8⟩, hrb, hrf, hb8⟩; have HSL8 := Lib.hid hsl8; have HBZ := Lib.hid hb8; clear hsl8 hb8)))
      refine bodyPost_ret (v := .tuple #[.agg #[.slice o8 m8 c8], .int .i64 0]) (by simp [results, Tryz.results14, go_sem, *]) rfl ⟨⟨o8, m8, c8, rfl, HSL8.out⟩, ?_⟩
      exact HBZ.out.setCell (by show w.heap.size ≤ w.heap.size + 1 + 1; omega) _
    · rw [hgh] at c17 hDIE HE8
      have HE9 := Lib.hid (HE8.out.s true)
      have HB9 : Hid (Below W3.heap.size W3 (W8.setCell ⟨g5, 17, none⟩ (.bool true))) := Lib.hid (HB8.out.setCell HL5.out _)
      have hl9 : (W8.setCell ⟨g5, 17, none⟩ (.bool true)).cell? ⟨w.heap.size, 0, none⟩ = some (.slice o n c) := (HB9.out.cell (p := ⟨w.heap.size, 0, none⟩) (World.block_lt_of_cell? _ _ hl3)).trans hl3
      have hD : die k g = ⟨g.k, md, true⟩ := by rw [hDIE]; simp
      have HD := Lib.hid hD
      clear hDIE hgh hD
      go_upto_region 12 with (fail)
      generalize W8.setCell ⟨g5, 17, none⟩ (.bool true) = W9 at *
      go_wp2_with (first
        | (refine wpList_load_mid (w := W9) rfl 46 (.tmp 11) rfl g5 0 rfl (ec (die k g)) _ (by rw [HD.out]; exact HE9.out.1) Tryz.underlying46 rfl hi46.out ?_)
        | (go_at_call 32; ((with_reducible refine (K32.out W9 HB9.out).mono ?_); rintro x w8 ⟨⟨o8, m8, c8, rfl, hsl8⟩, hrb, hrf, hb8⟩; have HSL8 := Lib.hid hsl8; have HBZ := Lib.hid hb8; clear hsl8 hb8)))
      refine bodyPost_ret (v := .tuple #[.agg #[.slice o8 m8 c8], .int .i64 0]) (by simp [results, Tryz.results14, go_sem, *]) rfl ⟨⟨o8, m8, c8, rfl, HSL8.out⟩, ?_⟩
      exact HBZ.out.setCell (by show w.heap.size ≤ w.heap.size + 1 + 1; omega) _
  · skip
    clear hroom
    go_upto_region 9 with (first
      | (refine wpList_load_mid (w := W3) rfl 24 (.tmp 4) rfl (w.heap.size + 1) 0 rfl (pc q) _ HP.out Tryz.underlying24 rfl hi24.out ?_)
      | (go_at_call 35; ((with_reducible refine (K35.out).mono ?_); rintro x w5 ⟨rfl, hb5⟩; have hl5 := (hb5.cell (p := ⟨w.heap.size, 0, none⟩) (World.block_lt_of_cell? _ _ hl3)).trans hl3; have HB5 := Lib.hid hb5; clear hb5)))
    have HP5 := Lib.hid (range_later HP.out HB5.out)
    have K19' := Lib.hid (K19.out w5 HB5.out)
    go_upto_region 10 with (first
      | (refine wpList_load_mid (w := w5) rfl 24 (.tmp 4) rfl (w.heap.size + 1) 0 rfl (pc q) _ HP5.out Tryz.underlying24 rfl hi24.out ?_)
      | (go_at_call 19; ((with_reducible refine (K19'.out).mono ?_); rintro x w6 ⟨rfl, hb6⟩; have HB6 := Lib.hid hb6; clear hb6))
      | (refine wpList_store_mid (w := w6.alloc (.cells z46 46)) rfl 46 (.tmp 11) (.tmp 49) rfl w6.heap.size 0 (ec g).toArray rfl rfl (by rw [ecs]; exact there_new (cs := z46) (Below.refl _ _)) (info46s _) hone.out ?_))
    have HE := Lib.hid (EB.stored (w := w6.alloc (.cells z46 46)) g (there_new (cs := z46) (Below.refl _ _)))
    have HB36 : Hid (Below W3.heap.size W3 w6) := Lib.hid (HB5.out.trans (HB6.out.mono HB5.out.size))
    have HB7 : Hid (Below W3.heap.size W3 ((w6.alloc (.cells z46 46)).setCells w6.heap.size 0 (ec g))) := Lib.hid (below_setCells HB36.out.size _ _ (HB36.out.trans ((alloc_below w6 (.cells z46 46)).mono HB36.out.size)))
    have HL5 : Hid (W3.heap.size ≤ w6.heap.size) := Lib.hid HB36.out.size
    generalize ((w6.alloc (.cells z46 46)).setCells w6.heap.size 0 (ec g)) = W7 at *
    generalize w6.heap.size = g5 at *
    obtain ⟨c16, c17, f16, f17⟩ := HE.out.cells
    have HE8 := Lib.hid (HE.out.d md)
    have HB8 : Hid (Below W3.heap.size W3 (W7.setCell ⟨g5, 16, none⟩ (.int .i64 (md : Int)))) := Lib.hid (HB7.out.setCell HL5.out _)
    go_upto_region 11 with (fail)
    generalize W7.setCell ⟨g5, 16, none⟩ (.int .i64 (md : Int)) = W8 at *
    clear c16 c17 f16 f17
    obtain ⟨c16, c17, f16, f17⟩ := HE8.out.cells
    simp only at c16 c17
    cases hgh : g.h
    · rw [hgh] at c17 hDIE HE8
      have HE9 := Lib.hid (HE8.out.s (decide (k ≤ md)))
      have HB9 : Hid (Below W3.heap.size W3 (W8.setCell ⟨g5, 17, none⟩ (.bool (decide (k ≤ md))))) := Lib.hid (HB8.out.setCell HL5.out _)
      have hl9 : (W8.setCell ⟨g5, 17, none⟩ (.bool (decide (k ≤ md)))).cell? ⟨w.heap.size, 0, none⟩ = some (.slice o n c) := (HB9.out.cell (p := ⟨w.heap.size, 0, none⟩) (World.block_lt_of_cell? _ _ hl3)).trans hl3
      have hD : die k g = ⟨g.k, md, decide (k ≤ md)⟩ := by rw [hDIE]; simp
      have HD := Lib.hid hD
      clear hDIE hgh hD
      go_upto_region 12 with (fail)
      generalize W8.setCell ⟨g5, 17, none⟩ (.bool (decide (k ≤ md))) = W9 at *
      go_wp2_with (first
        | (refine wpList_load_mid (w := W9) rfl 46 (.tmp 11) rfl g5 0 rfl (ec (die k g)) _ (by rw [HD.out]; exact HE9.out.1) Tryz.underlying46 rfl hi46.out ?_)
        | (go_at_call 32; ((with_reducible refine (K32.out W9 HB9.out).mono ?_); rintro x w8 ⟨⟨o8, m8, c8, rfl, hsl8⟩, hrb, hrf, hb8⟩; have HSL8 := Lib.hid hsl8; have HBZ := Lib.hid hb8; clear hsl8 hb8)))
      refine bodyPost_ret (v := .tuple #[.agg #[.slice o8 m8 c8], .int .i64 0]) (by simp [results, Tryz.results14, go_sem, *]) rfl ⟨⟨o8, m8, c8, rfl, HSL8.out⟩, ?_⟩
      exact HBZ.out.setCell (by show w.heap.size ≤ w.heap.size + 1 + 1; omega) _
    · rw [hgh] at c17 hDIE HE8
      have HE9 := Lib.hid (HE8.out.s true)
      have HB9 : Hid (Below W3.heap.size W3 (W8.setCell ⟨g5, 17, none⟩ (.bool true))) := Lib.hid (HB8.out.setCell HL5.out _)
      have hl9 : (W8.setCell ⟨g5, 17, none⟩ (.bool true)).cell? ⟨w.heap.size, 0, none⟩ = some (.slice o n c) := (HB9.out.cell (p := ⟨w.heap.size, 0, none⟩) (World.block_lt_of_cell? _ _ hl3)).trans hl3
      have hD : die k g = ⟨g.k, md, true⟩ := by rw [hDIE]; simp
      have HD := Lib.hid hD
      clear hDIE hgh hD
      go_upto_region 12 with (fail)
      generalize W8.setCell ⟨g5, 17, none⟩ (.bool true) = W9 at *
      go_wp2_with (first
        | (refine wpList_load_mid (w := W9) rfl 46 (.tmp 11) rfl g5 0 rfl (ec (die k g)) _ (by rw [HD.out]; exact HE9.out.1) Tryz.underlying46 rfl hi46.out ?_)
        | (go_at_call 32; ((with_reducible refine (K32.out W9 HB9.out).mono ?_); rintro x w8 ⟨⟨o8, m8, c8, rfl, hsl8⟩, hrb, hrf, hb8⟩; have HSL8 := Lib.hid hsl8; have HBZ := Lib.hid hb8; clear hsl8 hb8)))
      refine bodyPost_ret (v := .tuple #[.agg #[.slice o8 m8 c8], .int .i64 0]) (by simp [results, Tryz.results14, go_sem, *]) rfl ⟨⟨o8, m8, c8, rfl, HSL8.out⟩, ?_⟩
      exact HBZ.out.setCell (by show w.heap.size ≤ w.heap.size + 1 + 1; omega) _
end Go.Proofs.YtpcmmejlmhbcdaaGreat
