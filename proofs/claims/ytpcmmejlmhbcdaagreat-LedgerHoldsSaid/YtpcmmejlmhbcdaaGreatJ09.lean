/- with, of any row.; Clear; a row of cells, one of them set.; Ready. -/
import Derived.Test.YtpcmmejlmhbcdaaGreatJ08
set_option linter.unusedVariables false
set_option linter.unusedSimpArgs false
namespace Go.Proofs.YtpcmmejlmhbcdaaGreat
open Go.RowKit

theorem tail_concat0 (x : En) (ow : Value) (O : List En) (w W3 w6 : World) (hB : Below w.heap.size w W3) (hB6 : Below W3.heap.size W3 w6) (hRB : W3.cell? ⟨w.heap.size + 1 + 1, 0, none⟩ = some (.slice none 0 0)) (hRF : W3.frozen? ⟨w.heap.size + 1 + 1, 0, none⟩ = false) (hR2 : w.heap.size + 1 + 1 < W3.heap.size)
    (how : SlE w6 ow O) (hO : O.length ≤ 1) (hO2 : O = if x.tells then [x] else []) :
    Calls Tryz.prog 57 #[.slice (some ⟨w6.heap.size, 0, none⟩) 3 3] (w6.alloc (.cells #[.slice none 0 0, ow, .slice none 0 0] 26)) fun e w' =>
      (∃ o m c, e = .returned (.slice o m c) ∧ SlE (w'.setCell ⟨w.heap.size + 1 + 1, 0, none⟩ (.slice o m c)) (.slice o m c) (wi [] x)) ∧ w'.cell? ⟨w.heap.size + 1 + 1, 0, none⟩ = some (.slice none 0 0) ∧ w'.frozen? ⟨w.heap.size + 1 + 1, 0, none⟩ = false ∧ Below w.heap.size w w' := by
  have hb7 := alloc_below w6 (.cells #[.slice none 0 0, ow, .slice none 0 0] 26)
  obtain ⟨c0, c1, c2⟩ := three_new w6 (.slice none 0 0) ow (.slice none 0 0) 26
  refine (concat_any [] O [] _ _ _ w6.heap.size _ (by simp) (by omega) (by simp) (Or.inl ⟨rfl, rfl⟩) (how.later hb7) (Or.inl ⟨rfl, rfl⟩) c0 c1 c2).mono ?_
  rintro e w' ⟨⟨v, rfl, ho⟩, hb⟩
  have hb37 : Below W3.heap.size W3 w' := hB6.trans ((hb7.trans (hb.mono (by simp))).mono hB6.size)
  obtain ⟨f1, f2⟩ := frz_later hRB hRF hb37
  obtain ⟨o8, c8, hv8, _⟩ := ho.sl.form
  subst hv8
  refine ⟨⟨_, _, _, rfl, ?_⟩, f1, f2, hB.trans (hb37.mono hB.size)⟩
  have e : wi [] x = [] ++ (O ++ []) := by simp [wi, hO2]
  rw [e]
  refine (OwE.set ho ?_ _).sl
  have h1 := hB6.size
  simp only [World.alloc]
  show w.heap.size + 1 + 1 < (w6.heap.push _).size
  simp; omega

set_option maxRecDepth 100000 in
set_option maxHeartbeats 2000000 in
theorem with_none (x : En) (hq : x.k < top) (w : World) :
    Calls Tryz.prog 32 #[.agg #[.slice none 0 0], .agg (ec x).toArray] w fun e w' => (∃ o m c, e = .returned (.agg #[.slice o m c]) ∧ SlE w' (.slice o m c) (wi [] x)) ∧ Below w.heap.size w w' := by
  obtain ⟨W3, hW3⟩ : ∃ W3, W3 = ((w.alloc (.cells #[.slice none 0 0] 28)).alloc (.cells (ec x).toArray 46)).alloc (.cells #[.slice none 0 0] 28) := ⟨_, rfl⟩
  have hsz : (w.alloc (.cells #[.slice none 0 0] 28)).heap.size = w.heap.size + 1 := by simp
  have hsz2 : ((w.alloc (.cells #[.slice none 0 0] 28)).alloc (.cells (ec x).toArray 46)).heap.size = w.heap.size + 1 + 1 := by simp
  have hB : Below w.heap.size w W3 := by rw [hW3]; exact bt (bt (alloc_below _ _))
  have hL : W3.cell? ⟨w.heap.size, 0, none⟩ = some (.slice none 0 0) := by rw [hW3]; exact box_l (bt (alloc_below _ _))
  have hP : W3.rangeAt (w.heap.size + 1) 0 (ec x) := by
    rw [hW3, ← hsz]; exact range_alloc (alloc_below _ _)
  have K : Hid (Calls Tryz.prog 35 #[.agg #[.slice none 0 0], .agg (pc x.k).toArray] W3 fun e w' => e = .returned (.tuple #[.int .i64 0, .bool false]) ∧ Below W3.heap.size W3 w') :=
    Lib.hid (find_any [] List.Pairwise.nil (fun e he => by cases he) (by simp) none 0 x.k hq W3 (Or.inl rfl))
  have hRB : W3.cell? ⟨w.heap.size + 1 + 1, 0, none⟩ = some (.slice none 0 0) := by rw [hW3, ← hsz2]; exact box_l (Below.refl _ _)
  have hRF : W3.frozen? ⟨w.heap.size + 1 + 1, 0, none⟩ = false := by rw [hW3, ← hsz2]; exact (there_new (cs := #[.slice none 0 0]) (t := 28) (Below.refl _ _) 0 (by decide)).2
  have hR2 : w.heap.size + 1 + 1 < W3.heap.size := by rw [hW3]; simp
  have HRB := Lib.hid hRB
  have HRF := Lib.hid hRF
  have HR2 := Lib.hid hR2
  have HB := Lib.hid hB
  have HL := Lib.hid hL
  have HP := Lib.hid hP
  have hpk : W3.rangeAt (w.heap.size + 1) 0 (pc x.k) := range_head hP
  have HPK := Lib.hid hpk
  have hi24 := Lib.hid (info24 x.k)
  have hi46 := Lib.hid (info46 x)
  have K56 := Lib.hid (fun w => tells_any x w)
  clear hB hL hP hpk hsz hsz2 hRB hRF hR2
  go_enter Tryz.func32, Tryz.ntmps32
  go_upto_region 1 with (fail)
  rw [← hW3]
  clear hW3
  have hl3 := HL.out
  go_upto_region 6 with (first
    | (refine wpList_load_mid (w := W3) rfl 24 (.tmp 11) rfl (w.heap.size + 1) 0 rfl (pc x.k) _ HPK.out Tryz.underlying24 rfl hi24.out ?_)
    | (go_at_call 35; ((with_reducible refine (K.out).mono ?_); rintro x w5 ⟨rfl, hb5⟩; have hl5 := (hb5.cell (p := ⟨w.heap.size, 0, none⟩) (World.block_lt_of_cell? _ _ hl3)).trans hl3; have HB5 := Lib.hid hb5; clear hb5)))
  cases ht : x.tells
  · have K6 := K56
    rw [ht] at K6
    have HT := Lib.hid ht
    clear K56 ht
    go_upto_region 8 with (first
      | (refine wpList_load_mid (w := w5) rfl 46 (.tmp 3) rfl (w.heap.size + 1) 0 rfl (ec x) _ (range_later HP.out HB5.out) Tryz.underlying46 rfl hi46.out ?_)
      | (go_at_call 56; ((with_reducible refine (K6.out _).mono ?_); rintro x w6 ⟨rfl, hb6⟩; have HB6 := Lib.hid hb6; have hl6 := (hb6.cell (p := ⟨w.heap.size, 0, none⟩) (World.block_lt_of_cell? _ _ hl5)).trans hl5; clear hb6)))
    have HB36 : Hid (Below W3.heap.size W3 w6) := Lib.hid (HB5.out.trans (HB6.out.mono HB5.out.size))
    have K57 := Lib.hid (tail_concat0 x (.slice none 0 0) [] w W3 w6 HB.out HB36.out HRB.out HRF.out HR2.out (Or.inl ⟨rfl, rfl⟩) (by simp) (by rw [HT.out]; rfl))
    go_wp2_with (first
      | (go_at_call 57; ((with_reducible refine (K57.out).mono ?_); rintro x w8 ⟨⟨o8, m8, c8, rfl, hsl8⟩, hrb, hrf, hb8⟩; have HSL8 := Lib.hid hsl8; have HB8 := Lib.hid hb8; clear hsl8 hb8)))
    refine bodyPost_ret (v := .agg #[.slice o8 m8 c8]) (by simp [results, Tryz.results32, go_sem, *]) rfl ⟨⟨o8, m8, c8, rfl, ?_⟩, ?_⟩
    · exact HSL8.out
    · exact HB8.out.setCell (by show w.heap.size ≤ w.heap.size + 1 + 1; omega) _
  · have K6 := K56
    rw [ht] at K6
    have HT := Lib.hid ht
    clear K56 ht
    go_upto_region 7 with (first
      | (refine wpList_load_mid (w := w5) rfl 46 (.tmp 3) rfl (w.heap.size + 1) 0 rfl (ec x) _ (range_later HP.out HB5.out) Tryz.underlying46 rfl hi46.out ?_)
      | (go_at_call 56; ((with_reducible refine (K6.out _).mono ?_); rintro x w6 ⟨rfl, hb6⟩; have HB6 := Lib.hid hb6; have hl6 := (hb6.cell (p := ⟨w.heap.size, 0, none⟩) (World.block_lt_of_cell? _ _ hl5)).trans hl5; clear hb6)))
    have HP6 := Lib.hid (range_later (range_later HP.out HB5.out) HB6.out)
    have HO7 := Lib.hid (sl_one w6 x)
    have HS7 : Hid (w6.heap.size ≤ w6.heap.size) := Lib.hid (Nat.le_refl _)
    go_upto_region 8 with (first
      | (refine wpList_load_mid (w := w6) rfl 46 (.tmp 3) rfl (w.heap.size + 1) 0 rfl (ec x) _ HP6.out Tryz.underlying46 rfl hi46.out ?_)
      | (refine wpList_bs46 (w := w6) rfl (.tmp 26) rfl x rfl ?_)
      | (at_builtin; go_must (refine wpList_append_ents (w6.alloc (.cells (ec x).toArray 46)) rfl (.tmp 25) (.tmp 27) rfl (w6.alloc (.cells (ec x).toArray 46)).heap.size _ _ [] [x] rfl (OwE.nil _ _) rfl HO7.out (Nat.le_refl _) (by simp) ?_); intro v7 w7 ho7 hb7; have HO8 := Lib.hid ho7.sl; obtain ⟨g7, c7, rfl⟩ := one_form ho7; have hl7 := (hb7.cell (p := ⟨w.heap.size, 0, none⟩) (Nat.lt_of_lt_of_le (World.block_lt_of_cell? _ _ hl6) (alloc_below w6 _).size)).trans (((alloc_below w6 (.cells (ec x).toArray 46)).cell (p := ⟨w.heap.size, 0, none⟩) (World.block_lt_of_cell? _ _ hl6)).trans hl6); have HB7 := Lib.hid hb7; clear hb7 ho7))
    have HB67 : Hid (Below w6.heap.size w6 w7) := Lib.hid (bt HB7.out)
    have HB37 : Hid (Below W3.heap.size W3 w7) := Lib.hid (HB5.out.trans ((HB6.out.trans (HB67.out.mono HB6.out.size)).mono HB5.out.size))
    have K57 := Lib.hid (tail_concat0 x (.slice (some ⟨g7, 0, none⟩) 1 c7) [x] w W3 w7 HB.out HB37.out HRB.out HRF.out HR2.out HO8.out (by simp) (by rw [HT.out]; rfl))
    go_wp2_with (first
      | (go_at_call 57; ((with_reducible refine (K57.out).mono ?_); rintro x w8 ⟨⟨o8, m8, c8, rfl, hsl8⟩, hrb, hrf, hb8⟩; have HSL8 := Lib.hid hsl8; have HB8 := Lib.hid hb8; clear hsl8 hb8)))
    refine bodyPost_ret (v := .agg #[.slice o8 m8 c8]) (by simp [results, Tryz.results32, go_sem, *]) rfl ⟨⟨o8, m8, c8, rfl, ?_⟩, ?_⟩
    · exact HSL8.out
    · exact HB8.out.setCell (by show w.heap.size ≤ w.heap.size + 1 + 1; omega) _

theorem with_any (L : List En) (x : En) (v : Value) (hs : srt L) (hf : fit L) (hl : L.length ≤ 100000) (hq : x.k < top) (w : World) (hv : SlE w v L) :
    Calls Tryz.prog 32 #[.agg #[v], .agg (ec x).toArray] w fun e w' => (∃ o m c, e = .returned (.agg #[.slice o m c]) ∧ SlE w' (.slice o m c) (wi L x)) ∧ Below w.heap.size w w' := by
  rcases hv with ⟨rfl, rfl⟩ | ⟨b, off, cap, rfl, h1, h2, h3⟩
  · exact with_none x hq w
  · refine (with_some L x hs hf hl b off cap h1 h2 hq w h3).mono ?_
    rintro e w' ⟨⟨v, rfl, h⟩, hb⟩
    obtain ⟨o, c, rfl, _⟩ := h.form
    exact ⟨⟨_, _, _, rfl, h⟩, hb⟩
end Go.Proofs.YtpcmmejlmhbcdaaGreat

namespace Go.Proofs.YtpcmmejlmhbcdaaGreat
open Go.RowKit

/-- with, a box of the caller's beside it that takes what it answers. -/
theorem SlE.other {w : World} {v : Value} {L : List En} (h : SlE w v L) (B : Nat) (hb : ∀ b off cap n, v = .slice (some ⟨b, off, none⟩) n cap → 0 < n → b ≠ B) (u : Value) : SlE (w.setCell ⟨B, 0, none⟩ u) v L := by
  rcases h with h | ⟨b, off, cap, rfl, h2, h3, h4⟩
  · exact Or.inl h
  · refine Or.inr ⟨b, off, cap, rfl, h2, h3, fun j v hj => ?_⟩
    by_cases h0 : 0 < L.length
    · have hne := hb b off cap _ rfl h0
      rw [World.cell?_setCell_far w _ _ _ (by exact fun e => hne e.symm)]
      exact h4 j v hj
    · have : L = [] := List.eq_nil_of_length_eq_zero (by omega)
      subst this; cases hj
theorem with_box (L : List En) (x : En) (v : Value) (hs : srt L) (hf : fit L) (hl : L.length ≤ 100000) (hq : x.k < top) (w : World) (hv : SlE w v L) (B : Nat) (hc : w.cell? ⟨B, 0, none⟩ = some (.slice none 0 0)) (hz : w.frozen? ⟨B, 0, none⟩ = false) (h1 : ∀ j, 1 ≤ j → w.cell? ⟨B, j, none⟩ = Option.none) :
    Calls Tryz.prog 32 #[.agg #[v], .agg (ec x).toArray] w fun e w' => (∃ o m c, e = .returned (.agg #[.slice o m c]) ∧ SlE (w'.setCell ⟨B, 0, none⟩ (.slice o m c)) (.slice o m c) (wi L x)) ∧ w'.cell? ⟨B, 0, none⟩ = some (.slice none 0 0) ∧ w'.frozen? ⟨B, 0, none⟩ = false ∧ Below w.heap.size w w' := by
  refine (with_any L x v hs hf hl hq w hv).mono ?_
  rintro e w' ⟨⟨o, m, c, rfl, h⟩, hb⟩
  obtain ⟨f1, f2⟩ := frz_later hc hz hb
  refine ⟨⟨o, m, c, rfl, h.other B (fun b off cap n hvv h0 hbB => ?_) _⟩, f1, f2, hb⟩
  subst hbB
  rcases h with ⟨h, _⟩ | ⟨b2, o2, c2, h, _, _, hr⟩
  · rw [h] at hvv; cases hvv
  · rw [h] at hvv
    cases hvv
    have hl2 : (rc (wi L x)).length = (wi L x).length * 18 := rc_len _
    have hx : ∃ u, (rc (wi L x))[1]? = some u := ⟨_, List.getElem?_eq_getElem (by omega)⟩
    obtain ⟨u, hu⟩ := hx
    have h3 := hr 1 u hu
    have hlB := World.block_lt_of_cell? w _ hc
    rw [hb.cell (p := ⟨b, off + 1, none⟩) hlB, h1 _ (by omega)] at h3
    cases h3
theorem one_new (w w' : World) (v : Value) (t : TypeId) (hb : Below (w.alloc (.cells #[v] t)).heap.size (w.alloc (.cells #[v] t)) w') (j : Nat) (hj : 1 ≤ j) : w'.cell? ⟨w.heap.size, j, none⟩ = Option.none := by
  rw [hb.cell (by simp), World.cell?_alloc_new, Array.getElem?_eq_none (by simpa using hj)]

set_option maxRecDepth 100000 in
set_option maxHeartbeats 2000000 in
theorem clear_any (L : List En) (q : Nat) (o : Option Addr) (m c : Nat) (hs : srt L) (hf : fit L) (hl : L.length ≤ 100000) (hq : q < top) (w : World) (hv : SlE w (.slice o m c) L) :
    Calls Tryz.prog 13 #[.agg #[.slice o m c], .agg (pc q).toArray] w fun e w' => (∃ o m c, e = .returned (.agg #[.slice o m c]) ∧ SlE w' (.slice o m c) (wi L ⟨q, 0, false⟩)) ∧ Below w.heap.size w w' := by
  obtain ⟨W3, hW3⟩ : ∃ W3, W3 = ((w.alloc (.cells #[.slice o m c] 28)).alloc (.cells (pc q).toArray 24)).alloc (.cells #[.slice none 0 0] 28) := ⟨_, rfl⟩
  have hsz : (w.alloc (.cells #[.slice o m c] 28)).heap.size = w.heap.size + 1 := by simp
  have hsz2 : ((w.alloc (.cells #[.slice o m c] 28)).alloc (.cells (pc q).toArray 24)).heap.size = w.heap.size + 1 + 1 := by simp
  have hB : Below w.heap.size w W3 := by rw [hW3]; exact bt (bt (alloc_below _ _))
  have hL : W3.cell? ⟨w.heap.size, 0, none⟩ = some (.slice o m c) := by rw [hW3]; exact box_l (bt (alloc_below _ _))
  have hP : W3.rangeAt (w.heap.size + 1) 0 (pc q) := by
    rw [hW3, ← hsz]; exact range_alloc (alloc_below _ _)
  have hRB : W3.cell? ⟨w.heap.size + 1 + 1, 0, none⟩ = some (.slice none 0 0) := by rw [hW3, ← hsz2]; exact box_l (Below.refl _ _)
  have hRF : W3.frozen? ⟨w.heap.size + 1 + 1, 0, none⟩ = false := by rw [hW3, ← hsz2]; exact (there_new (cs := #[.slice none 0 0]) (t := 28) (Below.refl _ _) 0 (by decide)).2
  have hR1 : ∀ j, 1 ≤ j → W3.cell? ⟨w.heap.size + 1 + 1, j, none⟩ = Option.none := by rw [hW3, ← hsz2]; exact one_new _ _ _ _ (Below.refl _ _)
  have K : Hid (Calls Tryz.prog 32 #[.agg #[.slice o m c], .agg (ec ⟨q, 0, false⟩).toArray] W3 fun e w' => (∃ o m c, e = .returned (.agg #[.slice o m c]) ∧ SlE (w'.setCell ⟨w.heap.size + 1 + 1, 0, none⟩ (.slice o m c)) (.slice o m c) (wi L ⟨q, 0, false⟩)) ∧ w'.cell? ⟨w.heap.size + 1 + 1, 0, none⟩ = some (.slice none 0 0) ∧ w'.frozen? ⟨w.heap.size + 1 + 1, 0, none⟩ = false ∧ Below w.heap.size w w') :=
    Lib.hid ((with_box L ⟨q, 0, false⟩ _ hs hf hl hq W3 (hv.later hB) (w.heap.size + 1 + 1) hRB hRF hR1).mono (fun e w' ⟨h1, h2, h3, h4⟩ => ⟨h1, h2, h3, hB.trans (h4.mono hB.size)⟩))
  have HL := Lib.hid hL
  have HP := Lib.hid hP
  have hi24 := Lib.hid (info24 q)
  clear hs hf hl hq hv hsz hsz2 hB hL hP hRB hRF hR1
  go_enter Tryz.func13, Tryz.ntmps13
  go_upto_region 1 with (fail)
  rw [← hW3]
  clear hW3
  have hl3 := HL.out
  go_wp2_with (first
    | (refine wpList_load_mid (w := W3) rfl 24 (.tmp 3) rfl (w.heap.size + 1) 0 rfl (pc q) _ HP.out Tryz.underlying24 rfl hi24.out ?_)
    | (refine wpList_b46 (w := W3) rfl (.tmp 6) rfl q rfl ?_)
    | (go_at_call 32; ((with_reducible refine (K.out).mono ?_); rintro x w8 ⟨⟨o8, m8, c8, rfl, hsl8⟩, hrb, hrf, hb8⟩; have HSL8 := Lib.hid hsl8; have HB8 := Lib.hid hb8; clear hsl8 hb8)))
  refine bodyPost_ret (v := .agg #[.slice o8 m8 c8]) (by simp [results, Tryz.results13, go_sem, *]) rfl ⟨⟨o8, m8, c8, rfl, HSL8.out⟩, ?_⟩
  exact HB8.out.setCell (by show w.heap.size ≤ w.heap.size + 1 + 1; omega) _
end Go.Proofs.YtpcmmejlmhbcdaaGreat

namespace Go.Proofs.YtpcmmejlmhbcdaaGreat
open Go.RowKit

/-- An entry in a box whose cells may be written. -/
def EB (w : World) (b : Nat) (e : En) : Prop := w.rangeAt b 0 (ec e) ∧ w.there b 0 18
theorem EB.later {w w' : World} {b : Nat} {e : En} (h : EB w b e) (hb : Below w.heap.size w w') : EB w' b e := ⟨range_later h.1 hb, there_later h.2 hb⟩
theorem EB.cells {w : World} {b : Nat} {e : En} (h : EB w b e) : w.cell? ⟨b, 16, none⟩ = some (.int .i64 (e.d : Int)) ∧ w.cell? ⟨b, 17, none⟩ = some (.bool e.h) ∧ w.frozen? ⟨b, 16, none⟩ = false ∧ w.frozen? ⟨b, 17, none⟩ = false := by
  have h1 := h.1 16 _ (ec16 e)
  have h2 := h.1 17 _ (ec17 e)
  have h3 := (h.2 16 (by omega)).2
  have h4 := (h.2 17 (by omega)).2
  rw [Nat.zero_add] at h1 h2 h3 h4
  exact ⟨h1, h2, h3, h4⟩
theorem EB.stored {w : World} {b : Nat} (e : En) (h : w.there b 0 18) : EB (w.setCells b 0 (ec e)) b e :=
  ⟨World.rangeAt_setCells_same w b 0 (ec e) (by rw [ec_len]; exact h), World.there_setCells h b 0 (ec e)⟩
theorem there_set {w : World} {b o n : Nat} (h : w.there b o n) (p : Addr) (v : Value) : (w.setCell p v).there b o n := fun j hj => by
  obtain ⟨h1, h2⟩ := h j hj
  refine ⟨?_, by rw [World.frozen?_setCell]; exact h2⟩
  by_cases hp : p = ⟨b, o + j, none⟩
  · subst hp
    rw [World.cell?_setCell_same' _ _ _ h1]; rfl
  · rw [show (w.setCell p v).cell? ⟨b, o + j, none⟩ = w.cell? ⟨b, o + j, none⟩ from by apply World.cell?_setCell_other; exact hp]; exact h1
theorem EB.d {w : World} {b : Nat} {e : En} (h : EB w b e) (d : Nat) : EB (w.setCell ⟨b, 16, none⟩ (.int .i64 (d : Int))) b ⟨e.k, d, e.h⟩ := by
  refine ⟨fun j v hj => ?_, there_set h.2 _ _⟩
  by_cases h16 : j = 16
  · subst h16
    rw [ec16] at hj; cases hj
    rw [Nat.zero_add]
    apply World.cell?_setCell_same; exact h.cells.1
  · refine Eq.trans (by apply World.cell?_setCell_other; intro e; rw [Addr.mk.injEq] at e; omega) (h.1 j v ?_)
    have hl : j < 18 := by
      rcases Nat.lt_or_ge j 18 with h | h
      · exact h
      · rw [List.getElem?_eq_none (by rw [ec_len]; omega)] at hj; cases hj
    by_cases h17 : j = 17
    · subst h17; rw [ec17] at hj ⊢; exact hj
    · unfold ec at hj ⊢
      rw [List.getElem?_append_left (by rw [pc_len]; omega)] at hj ⊢; exact hj
theorem EB.s {w : World} {b : Nat} {e : En} (h : EB w b e) (s : Bool) : EB (w.setCell ⟨b, 17, none⟩ (.bool s)) b ⟨e.k, e.d, s⟩ := by
  refine ⟨fun j v hj => ?_, there_set h.2 _ _⟩
  by_cases h17 : j = 17
  · subst h17
    rw [ec17] at hj; cases hj
    rw [Nat.zero_add]
    apply World.cell?_setCell_same; exact h.cells.2.1
  · refine Eq.trans (by apply World.cell?_setCell_other; intro e; rw [Addr.mk.injEq] at e; omega) (h.1 j v ?_)
    have hl : j < 18 := by
      rcases Nat.lt_or_ge j 18 with h | h
      · exact h
      · rw [List.getElem?_eq_none (by rw [ec_len]; omega)] at hj; cases hj
    by_cases h16 : j = 16
    · subst h16; rw [ec16] at hj ⊢; exact hj
    · unfold ec at hj ⊢
      rw [List.getElem?_append_left (by rw [pc_len]; omega)] at hj ⊢; exact hj

set_option maxRecDepth 100000 in
set_option maxHeartbeats 2000000 in
theorem ready_any (L : List En) (q : Nat) (o : Option Addr) (c : Nat) (hs : srt L) (hf : fit L) (hl : L.length ≤ 100000) (hq : q < top) (w : World) (hv : SlE w (.slice o L.length c) L) :
    Calls Tryz.prog 9 #[.agg #[.slice o L.length c], .agg (pc q).toArray] w fun e w' => (∃ o m c, e = .returned (.agg #[.slice o m c]) ∧ SlE w' (.slice o m c) (wi L ⟨q, 0, (get L q).h⟩)) ∧ Below w.heap.size w w' := by
  obtain ⟨W3, hW3⟩ : ∃ W3, W3 = ((w.alloc (.cells #[.slice o L.length c] 28)).alloc (.cells (pc q).toArray 24)).alloc (.cells #[.slice none 0 0] 28) := ⟨_, rfl⟩
  have hsz : (w.alloc (.cells #[.slice o L.length c] 28)).heap.size = w.heap.size + 1 := by simp
  have hsz2 : ((w.alloc (.cells #[.slice o L.length c] 28)).alloc (.cells (pc q).toArray 24)).heap.size = w.heap.size + 1 + 1 := by simp
  have hB : Below w.heap.size w W3 := by rw [hW3]; exact bt (bt (alloc_below _ _))
  have hL : W3.cell? ⟨w.heap.size, 0, none⟩ = some (.slice o L.length c) := by rw [hW3]; exact box_l (bt (alloc_below _ _))
  have hP : W3.rangeAt (w.heap.size + 1) 0 (pc q) := by
    rw [hW3, ← hsz]; exact range_alloc (alloc_below _ _)
  have hRB : W3.cell? ⟨w.heap.size + 1 + 1, 0, none⟩ = some (.slice none 0 0) := by rw [hW3, ← hsz2]; exact box_l (Below.refl _ _)
  have hRF : W3.frozen? ⟨w.heap.size + 1 + 1, 0, none⟩ = false := by rw [hW3, ← hsz2]; exact (there_new (cs := #[.slice none 0 0]) (t := 28) (Below.refl _ _) 0 (by decide)).2
  have hR1 : ∀ j, 1 ≤ j → W3.cell? ⟨w.heap.size + 1 + 1, j, none⟩ = Option.none := by rw [hW3, ← hsz2]; exact one_new _ _ _ _ (Below.refl _ _)
  have K19 : Hid (Calls Tryz.prog 19 #[.agg #[.slice o L.length c], .agg (pc q).toArray] W3 fun e w' => e = .returned (.agg (ec (get L q)).toArray) ∧ Below W3.heap.size W3 w') := Lib.hid (by
    obtain ⟨o2, c2, e2, hr⟩ := (hv.later hB).form
    cases e2
    exact get_any L hs hf (by omega) o c q hq W3 hr)
  have hgk : (get L q).k = q := get_k L q
  have K32 : Hid (∀ W7, Below W3.heap.size W3 W7 → Calls Tryz.prog 32 #[.agg #[.slice o L.length c], .agg (ec ⟨(get L q).k, 0, (get L q).h⟩).toArray] W7 fun e w' => (∃ o m c, e = .returned (.agg #[.slice o m c]) ∧ SlE (w'.setCell ⟨w.heap.size + 1 + 1, 0, none⟩ (.slice o m c)) (.slice o m c) (wi L ⟨q, 0, (get L q).h⟩)) ∧ w'.cell? ⟨w.heap.size + 1 + 1, 0, none⟩ = some (.slice none 0 0) ∧ w'.frozen? ⟨w.heap.size + 1 + 1, 0, none⟩ = false ∧ Below w.heap.size w w') :=
    Lib.hid (fun W7 h7 => by
      obtain ⟨f1, f2⟩ := frz_later hRB hRF h7
      have hb27 : Below w.heap.size w W7 := hB.trans (h7.mono hB.size)
      rw [hgk]
      refine (with_box L ⟨q, 0, (get L q).h⟩ _ hs hf hl hq W7 (hv.later hb27) (w.heap.size + 1 + 1) f1 f2 (fun j hj => by
        have hlB := World.block_lt_of_cell? W3 _ hRB
        rw [h7.cell (p := ⟨w.heap.size + 1 + 1, j, none⟩) hlB]; exact hR1 j hj)).mono ?_
      rintro e w' ⟨h1, h2, h3, h4⟩
      exact ⟨h1, h2, h3, hb27.trans (h4.mono hb27.size)⟩)
  have HL := Lib.hid hL
  have HP := Lib.hid hP
  have hi24 := Lib.hid (info24 q)
  generalize get L q = g at *
  have hone := Lib.hid (all_oneCell_toArray (ec_one g))
  have hi46 := Lib.hid (info46 ⟨g.k, 0, g.h⟩)
  clear hs hf hl hq hv hsz hsz2 hB hL hP hRB hRF hR1 hgk
  generalize L.length = n at *
  go_enter Tryz.func9, Tryz.ntmps9
  go_upto_region 1 with (fail)
  rw [← hW3]
  clear hW3
  have hl3 := HL.out
  go_upto_region 2 with (first
    | (refine wpList_load_mid (w := W3) rfl 24 (.tmp 3) rfl (w.heap.size + 1) 0 rfl (pc q) _ HP.out Tryz.underlying24 rfl hi24.out ?_)
    | (go_at_call 19; ((with_reducible refine (K19.out).mono ?_); rintro x w5 ⟨rfl, hb5⟩; have hl5 := (hb5.cell (p := ⟨w.heap.size, 0, none⟩) (World.block_lt_of_cell? _ _ hl3)).trans hl3; have HB5 := Lib.hid hb5; clear hb5))
    | (refine wpList_store_mid (w := w5.alloc (.cells z46 46)) rfl 46 (.tmp 5) (.tmp 8) rfl w5.heap.size 0 (ec g).toArray rfl rfl (by rw [ecs]; exact there_new (cs := z46) (Below.refl _ _)) (info46s _) hone.out ?_))
  have HE := Lib.hid (EB.stored (w := w5.alloc (.cells z46 46)) g (there_new (cs := z46) (Below.refl _ _)))
  have HB7 : Hid (Below W3.heap.size W3 ((w5.alloc (.cells z46 46)).setCells w5.heap.size 0 (ec g))) := Lib.hid (below_setCells HB5.out.size _ _ (HB5.out.trans ((alloc_below w5 (.cells z46 46)).mono HB5.out.size)))
  have HL5 : Hid (W3.heap.size ≤ w5.heap.size) := Lib.hid HB5.out.size
  generalize ((w5.alloc (.cells z46 46)).setCells w5.heap.size 0 (ec g)) = W7 at *
  generalize w5.heap.size = g5 at *
  have hl7 := (HB7.out.cell (p := ⟨w.heap.size, 0, none⟩) (World.block_lt_of_cell? _ _ hl3)).trans hl3
  obtain ⟨c16, c17, f16, f17⟩ := HE.out.cells
  have hne : g5 ≠ w.heap.size := by
    have h1 := HL5.out
    have h2 := World.block_lt_of_cell? W3 _ hl3
    simp only at h2
    omega
  have HE8 := Lib.hid (HE.out.d 0)
  have HB8 : Hid (Below W3.heap.size W3 (W7.setCell ⟨g5, 16, none⟩ (.int .i64 ((0 : Nat) : Int)))) := Lib.hid (HB7.out.setCell HL5.out _)
  have hl8 : (W7.setCell ⟨g5, 16, none⟩ (.int .i64 ((0 : Nat) : Int))).cell? ⟨w.heap.size, 0, none⟩ = some (.slice o n c) := (HB8.out.cell (p := ⟨w.heap.size, 0, none⟩) (World.block_lt_of_cell? _ _ hl3)).trans hl3
  simp only [Int.natCast_zero, Int.ofNat_zero] at HE8 HB8 hl8
  go_upto_region 3 with (fail)
  generalize W7.setCell ⟨g5, 16, none⟩ (.int .i64 0) = W8 at *
  go_wp2_with (first
    | (refine wpList_load_mid (w := W8) rfl 46 (.tmp 5) rfl g5 0 rfl (ec ⟨g.k, 0, g.h⟩) _ HE8.out.1 Tryz.underlying46 rfl hi46.out ?_)
    | (go_at_call 32; ((with_reducible refine (K32.out W8 HB8.out).mono ?_); rintro x w8 ⟨⟨o8, m8, c8, rfl, hsl8⟩, hrb, hrf, hb8⟩; have HSL8 := Lib.hid hsl8; have HB9 := Lib.hid hb8; clear hsl8 hb8)))
  refine bodyPost_ret (v := .agg #[.slice o8 m8 c8]) (by simp [results, Tryz.results9, go_sem, *]) rfl ⟨⟨o8, m8, c8, rfl, HSL8.out⟩, ?_⟩
  exact HB9.out.setCell (by show w.heap.size ≤ w.heap.size + 1 + 1; omega) _
end Go.Proofs.YtpcmmejlmhbcdaaGreat
