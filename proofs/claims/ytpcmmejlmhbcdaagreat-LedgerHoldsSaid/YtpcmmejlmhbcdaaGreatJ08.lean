/- with. -/
import Derived.Test.YtpcmmejlmhbcdaaGreatJ07
import Derived.Great.BuildSlice
set_option linter.unusedVariables false
set_option linter.unusedSimpArgs false
namespace Go.Proofs.YtpcmmejlmhbcdaaGreat
open Go.RowKit

theorem OwE.set {w : World} {B : Nat} {v : Value} {L : List En} (h : OwE w B v L) {p : Addr} (hp : p.block < B) (u : Value) : OwE (w.setCell p u) B v L := by
  refine ⟨h.1, ?_⟩
  rcases h.2 with hn | ⟨g, cap, cur, h1, h2, h3, h4⟩
  · exact Or.inl hn
  · exact Or.inr ⟨g, cap, cur, h1, h2, (heap_setCell_other _ _ _ _ (by omega)).trans h3, h4⟩
theorem frz_later {w w' : World} {a : Addr} {v : Value} (hc : w.cell? a = some v) (hf : w.frozen? a = false) (hb : Below w.heap.size w w') : w'.cell? a = some v ∧ w'.frozen? a = false :=
  have hl := World.block_lt_of_cell? w _ hc
  ⟨(hb.cell hl).trans hc, (hb.frozen hl).trans hf⟩
theorem three_new (w : World) (a b c : Value) (t : TypeId) : (w.alloc (.cells #[a, b, c] t)).cell? ⟨w.heap.size, 0, none⟩ = some a ∧ (w.alloc (.cells #[a, b, c] t)).cell? ⟨w.heap.size, 1, none⟩ = some b ∧ (w.alloc (.cells #[a, b, c] t)).cell? ⟨w.heap.size, 2, none⟩ = some c := ⟨by simp, by simp, by simp⟩

theorem fill46a (a0 a1 a2 a3 a4 a5 a6 a7 a8 a9 a10 a11 a12 a13 a14 a15 a16 a17 : Value) : Instr.fill (fun i => some (i * 18, 18)) ((Array.range (1 * 18)).map ((Value.agg z46).cells[· % (Value.agg z46).cells.size]!)) [(0, .agg #[a0, a1, a2, a3, a4, a5, a6, a7, a8, a9, a10, a11, a12, a13, a14, a15, a16, a17])] = some #[a0, a1, a2, a3, a4, a5, a6, a7, a8, a9, a10, a11, a12, a13, a14, a15, a16, a17] := by kernel_rfl
theorem fill46 (e : En) : Instr.fill (fun i => some (i * 18, 18)) ((Array.range (1 * 18)).map ((Value.agg z46).cells[· % (Value.agg z46).cells.size]!)) [(0, .agg (ec e).toArray)] = some (ec e).toArray := by
  have h := ec_len e
  generalize ec e = l at *
  match l, h with
  | [a0, a1, a2, a3, a4, a5, a6, a7, a8, a9, a10, a11, a12, a13, a14, a15, a16, a17], _ => exact fill46a a0 a1 a2 a3 a4 a5 a6 a7 a8 a9 a10 a11 a12 a13 a14 a15 a16 a17
theorem wpList_bs46 {ops : Array Oper} {rest : List Oper} {o : Oper} {a : Act} {w : World} {Q : Exit → Act → World → Prop} (hg : o.guard = none) (x : Operand) (ho : o.op = .buildSlice 26 1 #[(0, x)]) (e : En) (hx : a.eval x = .agg (ec e).toArray)
    (h : wpList Tryz.prog ops Q rest (a.put o.dst (.slice (some ⟨w.heap.size, 0, none⟩) 1 1)) (w.alloc (.cells (ec e).toArray 46))) : wpList Tryz.prog ops Q (o :: rest) a w := by
  obtain ⟨i0, hi, hz0, hz1, hz2⟩ := info_parts Try.info46
  refine wpList_buildSlice hg 26 46 1 _ ho (ec e).toArray i0 (.agg z46) Tryz.underlying26 hi hz0 (by rw [hz1]; decide) (by rw [hz1]; decide) ?_ h
  rw [hz1]
  have e0 : ((#[(0, x)] : Array (Nat × Operand)).map fun (i, x) => (i, a.eval x)).toList = [(0, a.eval x)] := by simp
  rw [e0, hx]
  exact fill46 e
theorem one_form {w : World} {B : Nat} {v : Value} {e : En} (h : OwE w B v [e]) : ∃ g cap, v = .slice (some ⟨g, 0, none⟩) 1 cap := by
  rcases h.2 with ⟨_, hn⟩ | ⟨g, cap, cur, rfl, _⟩
  · cases hn
  · exact ⟨g, cap, rfl⟩
theorem sl_one (w : World) (e : En) : SlE (w.alloc (.cells (ec e).toArray 46)) (.slice (some ⟨w.heap.size, 0, none⟩) 1 1) [e] :=
  Or.inr ⟨w.heap.size, 0, 1, rfl, Nat.le_refl _, by unfold maxLen; omega, by
    have : rc [e] = ec e := by simp [rc]
    rw [this]; exact range_alloc (Below.refl _ _)⟩

/-- What Concat makes of what is ahead of the place, an own row, and the rest; the result's box is as it was. -/
theorem tail_concat (L : List En) (x : En) (n pl b off cap : Nat) (rv ow : Value) (O : List En) (w W3 w6 : World) (hn : n = L.length) (hp : pl = plc L x.k) (hpl : pl ≤ n) (hcap : pl ≤ cap) (hl : n ≤ 100000)
    (hr : w.rangeAt b off (rc L)) (hB : Below w.heap.size w W3) (hB6 : Below W3.heap.size W3 w6) (hRB : W3.cell? ⟨w.heap.size + 1 + 1, 0, none⟩ = some (.slice none 0 0)) (hRF : W3.frozen? ⟨w.heap.size + 1 + 1, 0, none⟩ = false) (hR2 : w.heap.size + 1 + 1 < W3.heap.size)
    (hrv : SlE w6 rv (L.drop (plc L x.k + if has L x.k then 1 else 0))) (how : SlE w6 ow O) (hO : O.length ≤ 1) (hs : srt L) (hO2 : O = if x.tells then [x] else []) (hcm : cap ≤ maxLen) :
    Calls Tryz.prog 57 #[.slice (some ⟨w6.heap.size, 0, none⟩) 3 3] (w6.alloc (.cells #[.slice (some ⟨b, off, none⟩) pl cap, ow, rv] 26)) fun e w' =>
      (∃ o m c, e = .returned (.slice o m c) ∧ SlE (w'.setCell ⟨w.heap.size + 1 + 1, 0, none⟩ (.slice o m c)) (.slice o m c) (wi L x)) ∧ w'.cell? ⟨w.heap.size + 1 + 1, 0, none⟩ = some (.slice none 0 0) ∧ w'.frozen? ⟨w.heap.size + 1 + 1, 0, none⟩ = false ∧ Below w.heap.size w w' := by
  have hb7 := alloc_below w6 (.cells #[.slice (some ⟨b, off, none⟩) pl cap, ow, rv] 26)
  have hbw6 : Below w.heap.size w w6 := hB.trans (hB6.mono hB.size)
  obtain ⟨c0, c1, c2⟩ := three_new w6 (.slice (some ⟨b, off, none⟩) pl cap) ow rv 26
  have hlt : (L.take pl).length = pl := by rw [List.length_take]; omega
  have ha : SlE w6 (.slice (some ⟨b, off, none⟩) pl cap) (L.take pl) := by
    refine Or.inr ⟨b, off, cap, by rw [hlt], by omega, hcm, fun j v hj => ?_⟩
    rw [rc_take] at hj
    have : (rc L)[j]? = some v := by
      rcases Nat.lt_or_ge j (pl * 18) with h | h
      · rwa [List.getElem?_take_of_lt h] at hj
      · rw [List.getElem?_eq_none (by rw [List.length_take]; omega)] at hj; cases hj
    exact range_later hr hbw6 _ v this
  have hdl : (L.drop (plc L x.k + if has L x.k then 1 else 0)).length ≤ n := by rw [List.length_drop]; omega
  refine (concat_any (L.take pl) O (L.drop (plc L x.k + if has L x.k then 1 else 0)) _ _ _ w6.heap.size _ (by omega) (by omega) (by omega) (ha.later hb7) (how.later hb7) (hrv.later hb7) c0 c1 c2).mono ?_
  rintro e w' ⟨⟨v, rfl, ho⟩, hb⟩
  have hb37 : Below W3.heap.size W3 w' := hB6.trans ((hb7.trans (hb.mono (by simp))).mono hB6.size)
  obtain ⟨f1, f2⟩ := frz_later hRB hRF hb37
  obtain ⟨o8, c8, hv8, _⟩ := ho.sl.form
  subst hv8
  refine ⟨⟨_, _, _, rfl, ?_⟩, f1, f2, hB.trans (hb37.mono hB.size)⟩
  have e : wi L x = L.take pl ++ (O ++ L.drop (plc L x.k + if has L x.k then 1 else 0)) := by rw [wi_parts x hs, ← hp, hO2]
  rw [e]
  refine (OwE.set ho ?_ _).sl
  have h1 := hB6.size
  simp only [World.alloc]
  show w.heap.size + 1 + 1 < (w6.heap.push _).size
  simp; omega

set_option maxRecDepth 100000 in
set_option maxHeartbeats 2000000 in
theorem with_some (L : List En) (x : En) (hs : srt L) (hf : fit L) (hl : L.length ≤ 100000) (b off cap : Nat) (hcap : L.length ≤ cap) (hcm : cap ≤ maxLen) (hq : x.k < top) (w : World) (hr : w.rangeAt b off (rc L)) :
    Calls Tryz.prog 32 #[.agg #[.slice (some ⟨b, off, none⟩) L.length cap], .agg (ec x).toArray] w fun e w' => (∃ v, e = .returned (.agg #[v]) ∧ SlE w' v (wi L x)) ∧ Below w.heap.size w w' := by
  have hR : RowE w (some ⟨b, off, none⟩) L := Or.inr ⟨b, off, rfl, hr⟩
  obtain ⟨W3, hW3⟩ : ∃ W3, W3 = ((w.alloc (.cells #[.slice (some ⟨b, off, none⟩) L.length cap] 28)).alloc (.cells (ec x).toArray 46)).alloc (.cells #[.slice none 0 0] 28) := ⟨_, rfl⟩
  have hsz : (w.alloc (.cells #[.slice (some ⟨b, off, none⟩) L.length cap] 28)).heap.size = w.heap.size + 1 := by simp
  have hsz2 : ((w.alloc (.cells #[.slice (some ⟨b, off, none⟩) L.length cap] 28)).alloc (.cells (ec x).toArray 46)).heap.size = w.heap.size + 1 + 1 := by simp
  have hB : Below w.heap.size w W3 := by rw [hW3]; exact bt (bt (alloc_below _ _))
  have hL : W3.cell? ⟨w.heap.size, 0, none⟩ = some (.slice (some ⟨b, off, none⟩) L.length cap) := by rw [hW3]; exact box_l (bt (alloc_below _ _))
  have hP : W3.rangeAt (w.heap.size + 1) 0 (ec x) := by
    rw [hW3, ← hsz]; exact range_alloc (alloc_below _ _)
  have K : Hid (Calls Tryz.prog 35 #[.agg #[.slice (some ⟨b, off, none⟩) L.length cap], .agg (pc x.k).toArray] W3 fun e w' => e = .returned (.tuple #[.int .i64 (plc L x.k : Nat), .bool (has L x.k)]) ∧ Below W3.heap.size W3 w') :=
    Lib.hid (find_any L hs hf (by omega) _ cap x.k hq W3 (hR.later hB))
  have hRB : W3.cell? ⟨w.heap.size + 1 + 1, 0, none⟩ = some (.slice none 0 0) := by rw [hW3, ← hsz2]; exact box_l (Below.refl _ _)
  have hRF : W3.frozen? ⟨w.heap.size + 1 + 1, 0, none⟩ = false := by rw [hW3, ← hsz2]; exact (there_new (cs := #[.slice none 0 0]) (t := 28) (Below.refl _ _) 0 (by decide)).2
  have hR2 : w.heap.size + 1 + 1 < W3.heap.size := by rw [hW3]; simp
  have HRB := Lib.hid hRB
  have HRF := Lib.hid hRF
  have HR2 := Lib.hid hR2
  have HB := Lib.hid hB
  have HL := Lib.hid hL
  have HP := Lib.hid hP
  have hpk : W3.rangeAt (w.heap.size + 1) 0 (pc x.k) := range_head hP
  have HPK := Lib.hid hpk
  have hi24 := Lib.hid (info24 x.k)
  have hi46 := Lib.hid (info46 x)
  have hpl := plc_le L x.k
  have K56 := Lib.hid (fun w => tells_any x w)
  obtain ⟨n, hn⟩ : ∃ n, n = L.length := ⟨_, rfl⟩
  obtain ⟨pl, hp⟩ : ∃ pl, pl = plc L x.k := ⟨_, rfl⟩
  clear hB hL hP hpk hsz hsz2 hR hRB hRF hR2
  rw [← hn] at hW3 K HL hpl hcap hl ⊢
  rw [← hp] at K hpl
  unfold maxLen at hcm
  have HNN := Lib.hid hn
  have HPP := Lib.hid hp
  have HSR := Lib.hid hs
  have HRG := Lib.hid hr
  clear hf hn hp hr
  cases hh : has L x.k
  · rw [hh] at K
    have HHH := Lib.hid hh
    have HRV : Hid (∀ wz, Below w.heap.size w wz → SlE wz (Value.slice (if cap = pl then some ⟨b, off, none⟩ else some ⟨b, off + pl * 18, none⟩) (n - pl) (cap - pl)) (L.drop (plc L x.k + if has L x.k then 1 else 0))) := Lib.hid (fun wz hz => by
      have hr := range_later HRG.out hz
      have e1 := HNN.out
      have e2 := HPP.out
      simp only [HHH.out, Bool.false_eq_true, if_false, Nat.add_zero]
      rw [← e2]
      have hlen : (L.drop pl).length = n - pl := by rw [List.length_drop, e1]
      have hd : wz.rangeAt b (off + pl * 18) (rc (L.drop pl)) := fun j v hj => by
        rw [rc_drop, List.getElem?_drop] at hj
        rw [Nat.add_assoc]; exact hr _ v hj
      by_cases hc : cap = pl
      · rw [if_pos hc]
        have h0 : L.drop pl = [] := List.eq_nil_of_length_eq_zero (by omega)
        exact Or.inr ⟨b, off, cap - pl, by rw [hlen], by omega, by unfold maxLen; omega, by rw [h0]; intro j v hj; cases hj⟩
      · rw [if_neg hc]
        exact Or.inr ⟨b, off + pl * 18, cap - pl, by rw [hlen], by omega, by unfold maxLen; omega, hd⟩)
    clear hs hh
    go_enter Tryz.func32, Tryz.ntmps32
    go_upto_region 1 with (fail)
    rw [← hW3]
    clear hW3
    have hl3 := HL.out
    go_upto_region 6 with (first
      | (refine wpList_load_mid (w := W3) rfl 24 (.tmp 11) rfl (w.heap.size + 1) 0 rfl (pc x.k) _ HPK.out Tryz.underlying24 rfl hi24.out ?_)
      | (go_at_call 35; ((with_reducible refine (K.out).mono ?_); rintro x w5 ⟨rfl, hb5⟩; have hl5 := (hb5.cell (p := ⟨w.heap.size, 0, none⟩) (World.block_lt_of_cell? _ _ hl3)).trans hl3; have HB5 := Lib.hid hb5; clear hb5)))
    have hrv := HRV.out w5 (HB.out.trans (HB5.out.mono HB.out.size))
    generalize (if cap = pl then (some ⟨b, off, none⟩ : Option Addr) else some ⟨b, off + pl * 18, none⟩) = ra at *
    generalize n - pl = rn at *
    generalize cap - pl = rcp at *
    have HRV5 := Lib.hid hrv
    clear hrv HRV
    cases ht : x.tells
    · have K6 := K56
      rw [ht] at K6
      have HT := Lib.hid ht
      clear K56 ht
      go_upto_region 8 with (first
        | (refine wpList_load_mid (w := w5) rfl 46 (.tmp 3) rfl (w.heap.size + 1) 0 rfl (ec x) _ (range_later HP.out HB5.out) Tryz.underlying46 rfl hi46.out ?_)
        | (go_at_call 56; ((with_reducible refine (K6.out _).mono ?_); rintro x w6 ⟨rfl, hb6⟩; have HB6 := Lib.hid hb6; have hl6 := (hb6.cell (p := ⟨w.heap.size, 0, none⟩) (World.block_lt_of_cell? _ _ hl5)).trans hl5; clear hb6)))
      have HB36 : Hid (Below W3.heap.size W3 w6) := Lib.hid (HB5.out.trans (HB6.out.mono HB5.out.size))
      have K57 := Lib.hid (tail_concat L x n pl b off cap (.slice ra rn rcp) (.slice none 0 0) [] w W3 w6 HNN.out HPP.out (by omega) (by omega) hl HRG.out HB.out HB36.out HRB.out HRF.out HR2.out (HRV5.out.later HB6.out) (Or.inl ⟨rfl, rfl⟩) (by simp) HSR.out (by rw [HT.out]; rfl) (by unfold maxLen; omega))
      go_wp2_with (first
        | (go_at_call 57; ((with_reducible refine (K57.out).mono ?_); rintro x w8 ⟨⟨o8, m8, c8, rfl, hsl8⟩, hrb, hrf, hb8⟩; have HSL8 := Lib.hid hsl8; have HB8 := Lib.hid hb8; clear hsl8 hb8)))
      refine bodyPost_ret (v := .agg #[.slice o8 m8 c8]) (by simp [results, Tryz.results32, go_sem, *]) rfl ⟨⟨.slice o8 m8 c8, rfl, ?_⟩, ?_⟩
      · exact HSL8.out
      · exact HB8.out.setCell (by show w.heap.size ≤ w.heap.size + 1 + 1; omega) _
    · have K6 := K56
      rw [ht] at K6
      have HT := Lib.hid ht
      clear K56 ht
      go_upto_region 7 with (first
        | (refine wpList_load_mid (w := w5) rfl 46 (.tmp 3) rfl (w.heap.size + 1) 0 rfl (ec x) _ (range_later HP.out HB5.out) Tryz.underlying46 rfl hi46.out ?_)
        | (go_at_call 56; ((with_reducible refine (K6.out _).mono ?_); rintro x w6 ⟨rfl, hb6⟩; have HB6 := Lib.hid hb6; have hl6 := (hb6.cell (p := ⟨w.heap.size, 0, none⟩) (World.block_lt_of_cell? _ _ hl5)).trans hl5; clear hb6)))
      have HP6 := Lib.hid (range_later (range_later HP.out HB5.out) HB6.out)
      have HO7 := Lib.hid (sl_one w6 x)
      have HS7 : Hid (w6.heap.size ≤ w6.heap.size) := Lib.hid (Nat.le_refl _)
      go_upto_region 8 with (first
        | (refine wpList_load_mid (w := w6) rfl 46 (.tmp 3) rfl (w.heap.size + 1) 0 rfl (ec x) _ HP6.out Tryz.underlying46 rfl hi46.out ?_)
        | (refine wpList_bs46 (w := w6) rfl (.tmp 26) rfl x rfl ?_)
        | (at_builtin; go_must (refine wpList_append_ents (w6.alloc (.cells (ec x).toArray 46)) rfl (.tmp 25) (.tmp 27) rfl (w6.alloc (.cells (ec x).toArray 46)).heap.size _ _ [] [x] rfl (OwE.nil _ _) rfl HO7.out (Nat.le_refl _) (by simp) ?_); intro v7 w7 ho7 hb7; have HO8 := Lib.hid ho7.sl; obtain ⟨g7, c7, rfl⟩ := one_form ho7; have hl7 := (hb7.cell (p := ⟨w.heap.size, 0, none⟩) (Nat.lt_of_lt_of_le (World.block_lt_of_cell? _ _ hl6) (alloc_below w6 _).size)).trans (((alloc_below w6 (.cells (ec x).toArray 46)).cell (p := ⟨w.heap.size, 0, none⟩) (World.block_lt_of_cell? _ _ hl6)).trans hl6); have HB7 := Lib.hid hb7; clear hb7 ho7))
      have HB67 : Hid (Below w6.heap.size w6 w7) := Lib.hid (bt HB7.out)
      have HB37 : Hid (Below W3.heap.size W3 w7) := Lib.hid (HB5.out.trans ((HB6.out.trans (HB67.out.mono HB6.out.size)).mono HB5.out.size))
      have K57 := Lib.hid (tail_concat L x n pl b off cap (.slice ra rn rcp) (.slice (some ⟨g7, 0, none⟩) 1 c7) [x] w W3 w7 HNN.out HPP.out (by omega) (by omega) hl HRG.out HB.out HB37.out HRB.out HRF.out HR2.out ((HRV5.out.later HB6.out).later HB67.out) HO8.out (by simp) HSR.out (by rw [HT.out]; rfl) (by unfold maxLen; omega))
      go_wp2_with (first
        | (go_at_call 57; ((with_reducible refine (K57.out).mono ?_); rintro x w8 ⟨⟨o8, m8, c8, rfl, hsl8⟩, hrb, hrf, hb8⟩; have HSL8 := Lib.hid hsl8; have HB8 := Lib.hid hb8; clear hsl8 hb8)))
      refine bodyPost_ret (v := .agg #[.slice o8 m8 c8]) (by simp [results, Tryz.results32, go_sem, *]) rfl ⟨⟨.slice o8 m8 c8, rfl, ?_⟩, ?_⟩
      · exact HSL8.out
      · exact HB8.out.setCell (by show w.heap.size ≤ w.heap.size + 1 + 1; omega) _
  · rw [hh] at K
    have HHH := Lib.hid hh
    have hlt : pl < n := by rw [HNN.out, HPP.out]; exact has_lt hs hh
    have HRV : Hid (∀ wz, Below w.heap.size w wz → SlE wz (Value.slice (if cap - pl = 1 then some ⟨b, off + pl * 18, none⟩ else some ⟨b, off + pl * 18 + 18, none⟩) (n - pl - 1) (cap - pl - 1)) (L.drop (plc L x.k + if has L x.k then 1 else 0))) := Lib.hid (fun wz hz => by
      have hr := range_later HRG.out hz
      have e1 := HNN.out
      have e2 := HPP.out
      rw [HHH.out, if_pos rfl, ← e2]
      have hlen : (L.drop (pl + 1)).length = n - pl - 1 := by rw [List.length_drop, e1]; omega
      have hd : wz.rangeAt b (off + pl * 18 + 18) (rc (L.drop (pl + 1))) := fun j v hj => by
        rw [rc_drop, List.getElem?_drop] at hj
        have := hr _ v hj
        rw [show off + pl * 18 + 18 + j = off + ((pl + 1) * 18 + j) by omega]; exact this
      by_cases hc : cap - pl = 1
      · rw [if_pos hc]
        have h0 : L.drop (pl + 1) = [] := List.eq_nil_of_length_eq_zero (by omega)
        exact Or.inr ⟨b, off + pl * 18, cap - pl - 1, by rw [hlen], by omega, by unfold maxLen; omega, by rw [h0]; intro j v hj; cases hj⟩
      · rw [if_neg hc]
        exact Or.inr ⟨b, off + pl * 18 + 18, cap - pl - 1, by rw [hlen], by omega, by unfold maxLen; omega, hd⟩)
    clear hs hh
    go_enter Tryz.func32, Tryz.ntmps32
    go_upto_region 1 with (fail)
    rw [← hW3]
    clear hW3
    have hl3 := HL.out
    go_upto_region 6 with (first
      | (refine wpList_load_mid (w := W3) rfl 24 (.tmp 11) rfl (w.heap.size + 1) 0 rfl (pc x.k) _ HPK.out Tryz.underlying24 rfl hi24.out ?_)
      | (go_at_call 35; ((with_reducible refine (K.out).mono ?_); rintro x w5 ⟨rfl, hb5⟩; have hl5 := (hb5.cell (p := ⟨w.heap.size, 0, none⟩) (World.block_lt_of_cell? _ _ hl3)).trans hl3; have HB5 := Lib.hid hb5; clear hb5)))
    have hrv := HRV.out w5 (HB.out.trans (HB5.out.mono HB.out.size))
    generalize (if cap - pl = 1 then (some ⟨b, off + pl * 18, none⟩ : Option Addr) else some ⟨b, off + pl * 18 + 18, none⟩) = ra at *
    generalize n - pl - 1 = rn at *
    generalize cap - pl - 1 = rcp at *
    have HRV5 := Lib.hid hrv
    clear hrv HRV
    cases ht : x.tells
    · have K6 := K56
      rw [ht] at K6
      have HT := Lib.hid ht
      clear K56 ht
      go_upto_region 8 with (first
        | (refine wpList_load_mid (w := w5) rfl 46 (.tmp 3) rfl (w.heap.size + 1) 0 rfl (ec x) _ (range_later HP.out HB5.out) Tryz.underlying46 rfl hi46.out ?_)
        | (go_at_call 56; ((with_reducible refine (K6.out _).mono ?_); rintro x w6 ⟨rfl, hb6⟩; have HB6 := Lib.hid hb6; have hl6 := (hb6.cell (p := ⟨w.heap.size, 0, none⟩) (World.block_lt_of_cell? _ _ hl5)).trans hl5; clear hb6)))
      have HB36 : Hid (Below W3.heap.size W3 w6) := Lib.hid (HB5.out.trans (HB6.out.mono HB5.out.size))
      have K57 := Lib.hid (tail_concat L x n pl b off cap (.slice ra rn rcp) (.slice none 0 0) [] w W3 w6 HNN.out HPP.out (by omega) (by omega) hl HRG.out HB.out HB36.out HRB.out HRF.out HR2.out (HRV5.out.later HB6.out) (Or.inl ⟨rfl, rfl⟩) (by simp) HSR.out (by rw [HT.out]; rfl) (by unfold maxLen; omega))
      go_wp2_with (first
        | (go_at_call 57; ((with_reducible refine (K57.out).mono ?_); rintro x w8 ⟨⟨o8, m8, c8, rfl, hsl8⟩, hrb, hrf, hb8⟩; have HSL8 := Lib.hid hsl8; have HB8 := Lib.hid hb8; clear hsl8 hb8)))
      refine bodyPost_ret (v := .agg #[.slice o8 m8 c8]) (by simp [results, Tryz.results32, go_sem, *]) rfl ⟨⟨.slice o8 m8 c8, rfl, ?_⟩, ?_⟩
      · exact HSL8.out
      · exact HB8.out.setCell (by show w.heap.size ≤ w.heap.size + 1 + 1; omega) _
    · have K6 := K56
      rw [ht] at K6
      have HT := Lib.hid ht
      clear K56 ht
      go_upto_region 7 with (first
        | (refine wpList_load_mid (w := w5) rfl 46 (.tmp 3) rfl (w.heap.size + 1) 0 rfl (ec x) _ (range_later HP.out HB5.out) Tryz.underlying46 rfl hi46.out ?_)
        | (go_at_call 56; ((with_reducible refine (K6.out _).mono ?_); rintro x w6 ⟨rfl, hb6⟩; have HB6 := Lib.hid hb6; have hl6 := (hb6.cell (p := ⟨w.heap.size, 0, none⟩) (World.block_lt_of_cell? _ _ hl5)).trans hl5; clear hb6)))
      have HP6 := Lib.hid (range_later (range_later HP.out HB5.out) HB6.out)
      have HO7 := Lib.hid (sl_one w6 x)
      have HS7 : Hid (w6.heap.size ≤ w6.heap.size) := Lib.hid (Nat.le_refl _)
      go_upto_region 8 with (first
        | (refine wpList_load_mid (w := w6) rfl 46 (.tmp 3) rfl (w.heap.size + 1) 0 rfl (ec x) _ HP6.out Tryz.underlying46 rfl hi46.out ?_)
        | (refine wpList_bs46 (w := w6) rfl (.tmp 26) rfl x rfl ?_)
        | (at_builtin; go_must (refine wpList_append_ents (w6.alloc (.cells (ec x).toArray 46)) rfl (.tmp 25) (.tmp 27) rfl (w6.alloc (.cells (ec x).toArray 46)).heap.size _ _ [] [x] rfl (OwE.nil _ _) rfl HO7.out (Nat.le_refl _) (by simp) ?_); intro v7 w7 ho7 hb7; have HO8 := Lib.hid ho7.sl; obtain ⟨g7, c7, rfl⟩ := one_form ho7; have hl7 := (hb7.cell (p := ⟨w.heap.size, 0, none⟩) (Nat.lt_of_lt_of_le (World.block_lt_of_cell? _ _ hl6) (alloc_below w6 _).size)).trans (((alloc_below w6 (.cells (ec x).toArray 46)).cell (p := ⟨w.heap.size, 0, none⟩) (World.block_lt_of_cell? _ _ hl6)).trans hl6); have HB7 := Lib.hid hb7; clear hb7 ho7))
      have HB67 : Hid (Below w6.heap.size w6 w7) := Lib.hid (bt HB7.out)
      have HB37 : Hid (Below W3.heap.size W3 w7) := Lib.hid (HB5.out.trans ((HB6.out.trans (HB67.out.mono HB6.out.size)).mono HB5.out.size))
      have K57 := Lib.hid (tail_concat L x n pl b off cap (.slice ra rn rcp) (.slice (some ⟨g7, 0, none⟩) 1 c7) [x] w W3 w7 HNN.out HPP.out (by omega) (by omega) hl HRG.out HB.out HB37.out HRB.out HRF.out HR2.out ((HRV5.out.later HB6.out).later HB67.out) HO8.out (by simp) HSR.out (by rw [HT.out]; rfl) (by unfold maxLen; omega))
      go_wp2_with (first
        | (go_at_call 57; ((with_reducible refine (K57.out).mono ?_); rintro x w8 ⟨⟨o8, m8, c8, rfl, hsl8⟩, hrb, hrf, hb8⟩; have HSL8 := Lib.hid hsl8; have HB8 := Lib.hid hb8; clear hsl8 hb8)))
      refine bodyPost_ret (v := .agg #[.slice o8 m8 c8]) (by simp [results, Tryz.results32, go_sem, *]) rfl ⟨⟨.slice o8 m8 c8, rfl, ?_⟩, ?_⟩
      · exact HSL8.out
      · exact HB8.out.setCell (by show w.heap.size ≤ w.heap.size + 1 + 1; omega) _
end Go.Proofs.YtpcmmejlmhbcdaaGreat
