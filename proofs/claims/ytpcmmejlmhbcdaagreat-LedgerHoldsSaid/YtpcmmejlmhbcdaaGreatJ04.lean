/- BinarySearchFunc over a row of entries by rising prints. -/
import Derived.Test.YtpcmmejlmhbcdaaGreatJ03
set_option linter.unusedVariables false
set_option linter.unusedSimpArgs false
namespace Go.Proofs.YtpcmmejlmhbcdaaGreat
open Go.RowKit

theorem blH_drew {b : Nat} {w wz : World} (h : Hid (Below b w wz)) : Hid (Below b w wz.drew) := Lib.hid h.out.drew
theorem info46 (e : En) : (Tryz.prog.info? 46).map (·.size) = some (ec e).length := by rw [ec_len]; kernel_rfl
theorem info24 (k : Nat) : (Tryz.prog.info? 24).map (·.size) = some (pc k).length := by rw [pc_len]; kernel_rfl
/-- A place with lower prints ahead and no lower one from it on is the print's place. -/
theorem plc_of : ∀ {L : List En} {k i : Nat}, i ≤ L.length → (∀ t e, t < i → L[t]? = some e → e.k < k) → (∀ t e, i ≤ t → L[t]? = some e → k ≤ e.k) → plc L k = i
  | [], k, i, hi, _, _ => by simp at hi; subst hi; rfl
  | a :: R, k, 0, _, _, h2 => (low_none (fun e he => by
      obtain ⟨t, ht, rfl⟩ := List.getElem_of_mem he
      exact h2 t _ (Nat.zero_le _) (List.getElem?_eq_getElem ht))).1
  | a :: R, k, i + 1, hi, h1, h2 => by
    have ha := h1 0 a (by omega) rfl
    have e1 : plc (a :: R) k = plc R k + 1 := by unfold plc; rw [List.countP_cons_of_pos (by simpa using ha)]
    rw [e1, plc_of (L := R) (k := k) (i := i) (by simpa using hi) (fun t e ht he => h1 (t + 1) e (by omega) (by simpa using he)) (fun t e ht he => h2 (t + 1) e (by omega) (by simpa using he))]
theorem srt_lt {L : List En} (h : srt L) {i j : Nat} {a b : En} (hij : i < j) (ha : L[i]? = some a) (hb : L[j]? = some b) : a.k < b.k := by
  obtain ⟨h1, rfl⟩ := List.getElem?_eq_some_iff.1 ha
  obtain ⟨h2, rfl⟩ := List.getElem?_eq_some_iff.1 hb
  exact List.pairwise_iff_getElem.1 h i j h1 h2 hij
/-- All prints are such. -/
def fit (L : List En) : Prop := ∀ e ∈ L, e.k < top

set_option maxRecDepth 100000 in
set_option maxHeartbeats 2000000 in
theorem search_any (L : List En) (hs : srt L) (hf : fit L) (hl : L.length ≤ 1000000) (o : Option Addr) (cap q : Nat) (hq : q < top) (w : World) (hr : RowE w o L) :
    Calls Tryz.prog 58 #[.slice o L.length cap, pv q, .func (.func 40) #[] #[]] w fun e w' => e = .returned (.tuple #[.int .i64 (plc L q : Nat), .bool (has L q)]) ∧ Below w.heap.size w w' := by
  have HS := Lib.hid hs
  have HF := Lib.hid hf
  have HR := Lib.hid hr
  have HQ := Lib.hid hq
  obtain ⟨m, hm⟩ : ∃ m, m = L.length := ⟨_, rfl⟩
  rw [← hm]
  have hl' : m ≤ 1000000 := by omega
  have HM := Lib.hid hm
  have HP := Lib.hid (range_alloc (w := w) (cs := pc q) (t := 24) (w' := w.alloc (.cells (pc q).toArray 24)) (Below.refl _ _))
  have HB0 : Hid (Below w.heap.size w (w.alloc (.cells (pc q).toArray 24))) := Lib.hid (alloc_below _ _)
  have HN0 : Hid (w.heap.size < (w.alloc (.cells (pc q).toArray 24)).heap.size) := Lib.hid (by simp)
  clear hs hf hr hq hl hm
  unfold pv
  go_enter Tryz.func58, Tryz.ntmps58
  go_wp2
  generalize w.alloc (.cells (pc q).toArray 24) = W0 at *
  have HPW : Hid (∀ wz, Below W0.heap.size W0 wz → wz.rangeAt w.heap.size 0 (pc q)) := Lib.hid (fun wz hb => fun j v hj => (hb.cell HN0.out).trans (HP.out j v hj))
  go_loopw [9, 10, 11] (fun x y z wr => ∃ lo hi : Nat, x = .int .i64 lo ∧ y = .int .i64 hi ∧ lo ≤ hi ∧ hi ≤ m ∧ Hid (Below W0.heap.size W0 wr) ∧ Hid (∀ t e, t < lo → L[t]? = some e → e.k < q) ∧ Hid (∀ t e, hi ≤ t → L[t]? = some e → q ≤ e.k)) (fun x y z _ => (intOf y).toNat - (intOf x).toNat)
  case atStart => exact ⟨0, m, rfl, rfl, Nat.zero_le _, Nat.le_refl _, Lib.hid (Below.refl _ _), Lib.hid (fun t e ht => absurd ht (Nat.not_lt_zero _)), Lib.hid (fun t e ht he => by rw [List.getElem?_eq_none (by have := HM.out; omega)] at he; cases he)⟩
  case round =>
    obtain ⟨lo, hi, rfl, rfl, hlh, him, HB, H1, H2⟩ := hrel
    have HRW : Hid (∀ wz, Below W0.heap.size W0 wz → RowE wz o L) := Lib.hid (fun wz hb => ((HR.out.later HB0.out).later hb))
    by_cases hlt : lo < hi
    · obtain ⟨c, hc⟩ : ∃ c : Nat, ((lo : Int) + (hi : Int)) / 2 = (c : Int) := ⟨(lo + hi) / 2, by omega⟩
      have hcl : lo ≤ c ∧ c < hi := by omega
      have hcm : c < L.length := by rw [← HM.out]; omega
      have hce : L[c]? = some L[c] := List.getElem?_eq_getElem hcm
      obtain ⟨e, he⟩ : ∃ e, e = L[c] := ⟨_, rfl⟩
      rw [← he] at hce
      have HCE := Lib.hid hce
      have hef : e.k < top := HF.out e (by rw [he]; exact List.getElem_mem hcm)
      obtain ⟨b, off, rfl, _⟩ := (HRW.out wr HB.out).get hce
      have HRG : Hid (∀ wz, Hid (Below W0.heap.size W0 wz) → wz.rangeAt b (off + c * 18) (ec e) ∧ wz.rangeAt w.heap.size 0 (pc q) ∧ Hid (Below W0.heap.size W0 wz)) := Lib.hid (fun wz hb => by
        obtain ⟨b2, o2, e2, hr⟩ := (HRW.out wz hb.out).get HCE.out
        cases e2
        exact ⟨hr, HPW.out wz hb.out, hb⟩)
      have K40 : Hid (∀ wz, Hid (Below W0.heap.size W0 wz) → Calls Tryz.prog 40 #[.agg (ec e).toArray, .agg (pc q).toArray] wz fun x w' => x = .returned (.int .i64 (ordN e.k q)) ∧ Hid (Below W0.heap.size W0 w')) :=
        Lib.hid (fun wz hb => (order_any e q hef HQ.out wz).mono fun x w' ⟨h1, h2⟩ => ⟨h1, Lib.hid (hb.out.trans (h2.mono hb.out.size))⟩)
      have hi46 := info46 e
      have hi24 := info24 q
      have hu46 := Tryz.underlying46
      have hu24 := Tryz.underlying24
      have q1 : (c : Int) < (m : Int) := by omega
      have hsum : lo + hi ≤ 2000000 := by omega
      by_cases hlq : e.k < q
      · have er : ordN e.k q = -1 := by unfold ordN; rw [if_pos hlq]
        rw [er] at K40
        have HLQ := Lib.hid hlq
        clear hce he hef hlq er
        go_wp2
        refine wp_region_held_drew (S := (fun wz => wz.rangeAt b (off + c * 18) (ec e) ∧ wz.rangeAt w.heap.size 0 (pc q) ∧ Hid (Below W0.heap.size W0 wz))) (by kernel_rfl) (HRG.out _ (blH_drew HB)) (fun hHeld => ?_)
        refine wpAnyH_take (i := 0) (oi := ⟨some 24, _, _, _, _, _⟩) (v := ?_) rfl (by kernel_rfl) (by kernel_rfl) (by kernel_rfl) (fun _ _ _ h => h) (Or.inl ⟨by rfl, by (intro w hSw; (try dsimp only at hSw); go_simp; try with_reducible rfl)⟩) hHeld ?_
        try simp only [Act.put, List.setIfInBounds_toArray, List.set_cons_zero, List.set_cons_succ]
        refine wpAnyH_take (i := 1) (oi := ⟨some 25, _, _, _, _, _⟩) (v := ?_) rfl (by kernel_rfl) (by kernel_rfl) (by kernel_rfl) (fun _ _ _ h => h) (Or.inl ⟨by rfl, by (intro w hSw; (try dsimp only at hSw); go_simp; try with_reducible rfl)⟩) hHeld ?_
        try simp only [Act.put, List.setIfInBounds_toArray, List.set_cons_zero, List.set_cons_succ]
        refine wpAnyH_take (i := 2) (oi := ⟨some 26, _, _, _, _, _⟩) (v := ?_) rfl (by kernel_rfl) (by kernel_rfl) (by kernel_rfl) (fun _ _ _ h => h) (Or.inl ⟨by rfl, by (intro w hSw; (try dsimp only at hSw); go_simp; try with_reducible rfl)⟩) hHeld ?_
        try simp only [Act.put, List.setIfInBounds_toArray, List.set_cons_zero, List.set_cons_succ]
        refine wpAnyH_take (i := 3) (oi := ⟨some 27, _, _, _, _, _⟩) (v := ?_) rfl (by kernel_rfl) (by kernel_rfl) (by kernel_rfl) (fun _ _ _ h => h) (Or.inl ⟨by rfl, by (intro w hSw; (try dsimp only at hSw); go_simp; try with_reducible rfl)⟩) hHeld ?_
        try simp only [Act.put, List.setIfInBounds_toArray, List.set_cons_zero, List.set_cons_succ]
        refine wpAnyH_take (i := 4) (oi := ⟨some 28, _, _, _, _, _⟩) (v := .agg (ec e).toArray) rfl (by kernel_rfl) (by kernel_rfl) (by kernel_rfl) (fun _ _ _ h => h) (yieldsIf_load_mid (by rfl) 46 (.tmp 27) rfl (b) (off + c * 18) rfl (ec e) _ (fun w hSw => hSw.1) hu46 rfl hi46) hHeld ?_
        try simp only [Act.put, List.setIfInBounds_toArray, List.set_cons_zero, List.set_cons_succ]
        refine wpAnyH_take (i := 5) (oi := ⟨some 29, _, _, _, _, _⟩) (v := .agg (pc q).toArray) rfl (by kernel_rfl) (by kernel_rfl) (by kernel_rfl) (fun _ _ _ h => h) (yieldsIf_load_mid (by rfl) 24 (.tmp 4) rfl (w.heap.size) (0) rfl (pc q) _ (fun w hSw => hSw.2.1) hu24 rfl hi24) hHeld ?_
        try simp only [Act.put, List.setIfInBounds_toArray, List.set_cons_zero, List.set_cons_succ]
        refine wpAnyH_ready (rs := [6]) (by kernel_rfl) (by simp) ?_
        refine AllReadyH.cons (o := ⟨some 30, _, _, _, _, _⟩) rfl (fun K hK => ?_) AllReadyH.nil
        go_simp
        refine (K40.out _ hHeld.2.2).mono ?_
        rintro x w5 ⟨rfl, hb5⟩
        try go_simp
        refine hK.out _ _ (HRG.out _ hb5) (fun hHeld2 => ?_)
        clear hK K hHeld
        have hHeld := hHeld2
        clear hHeld2
        try simp only [Act.put, List.setIfInBounds_toArray, List.set_cons_zero, List.set_cons_succ]
        refine wpAnyH_take (i := 7) (oi := ⟨some 31, _, _, _, _, _⟩) (v := ?_) rfl (by kernel_rfl) (by kernel_rfl) (by kernel_rfl) (fun _ _ _ h => h) (Or.inl ⟨by rfl, by (intro w hSw; (try dsimp only at hSw); go_simp; try with_reducible rfl)⟩) hHeld ?_
        try simp only [Act.put, List.setIfInBounds_toArray, List.set_cons_zero, List.set_cons_succ]
        refine wpAnyH_done (by kernel_rfl) ?_ _
        simp only [Exit.then]
        apply_assumption
        go_wp2
        go_roundw
        case rel => exact ⟨c + 1, hi, by go_num, rfl, by omega, him, hHeld.2.2, Lib.hid (fun t a ht ha => by
          by_cases htc : t = c
          · subst htc; rw [HCE.out] at ha; cases ha; exact HLQ.out
          · have := srt_lt HS.out (show t < c by omega) ha HCE.out
            have := HLQ.out
            omega), H2⟩
        case measure => simp [intOf]; omega
      · obtain ⟨r, er⟩ : ∃ r : Nat, ordN e.k q = (r : Int) := by
          unfold ordN; rw [if_neg hlq]; split
          · exact ⟨1, rfl⟩
          · exact ⟨0, rfl⟩
        rw [er] at K40
        have HLQ := Lib.hid hlq
        clear hce he hef hlq er
        go_wp2
        refine wp_region_held_drew (S := (fun wz => wz.rangeAt b (off + c * 18) (ec e) ∧ wz.rangeAt w.heap.size 0 (pc q) ∧ Hid (Below W0.heap.size W0 wz))) (by kernel_rfl) (HRG.out _ (blH_drew HB)) (fun hHeld => ?_)
        refine wpAnyH_take (i := 0) (oi := ⟨some 24, _, _, _, _, _⟩) (v := ?_) rfl (by kernel_rfl) (by kernel_rfl) (by kernel_rfl) (fun _ _ _ h => h) (Or.inl ⟨by rfl, by (intro w hSw; (try dsimp only at hSw); go_simp; try with_reducible rfl)⟩) hHeld ?_
        try simp only [Act.put, List.setIfInBounds_toArray, List.set_cons_zero, List.set_cons_succ]
        refine wpAnyH_take (i := 1) (oi := ⟨some 25, _, _, _, _, _⟩) (v := ?_) rfl (by kernel_rfl) (by kernel_rfl) (by kernel_rfl) (fun _ _ _ h => h) (Or.inl ⟨by rfl, by (intro w hSw; (try dsimp only at hSw); go_simp; try with_reducible rfl)⟩) hHeld ?_
        try simp only [Act.put, List.setIfInBounds_toArray, List.set_cons_zero, List.set_cons_succ]
        refine wpAnyH_take (i := 2) (oi := ⟨some 26, _, _, _, _, _⟩) (v := ?_) rfl (by kernel_rfl) (by kernel_rfl) (by kernel_rfl) (fun _ _ _ h => h) (Or.inl ⟨by rfl, by (intro w hSw; (try dsimp only at hSw); go_simp; try with_reducible rfl)⟩) hHeld ?_
        try simp only [Act.put, List.setIfInBounds_toArray, List.set_cons_zero, List.set_cons_succ]
        refine wpAnyH_take (i := 3) (oi := ⟨some 27, _, _, _, _, _⟩) (v := ?_) rfl (by kernel_rfl) (by kernel_rfl) (by kernel_rfl) (fun _ _ _ h => h) (Or.inl ⟨by rfl, by (intro w hSw; (try dsimp only at hSw); go_simp; try with_reducible rfl)⟩) hHeld ?_
        try simp only [Act.put, List.setIfInBounds_toArray, List.set_cons_zero, List.set_cons_succ]
        refine wpAnyH_take (i := 4) (oi := ⟨some 28, _, _, _, _, _⟩) (v := .agg (ec e).toArray) rfl (by kernel_rfl) (by kernel_rfl) (by kernel_rfl) (fun _ _ _ h => h) (yieldsIf_load_mid (by rfl) 46 (.tmp 27) rfl (b) (off + c * 18) rfl (ec e) _ (fun w hSw => hSw.1) hu46 rfl hi46) hHeld ?_
        try simp only [Act.put, List.setIfInBounds_toArray, List.set_cons_zero, List.set_cons_succ]
        refine wpAnyH_take (i := 5) (oi := ⟨some 29, _, _, _, _, _⟩) (v := .agg (pc q).toArray) rfl (by kernel_rfl) (by kernel_rfl) (by kernel_rfl) (fun _ _ _ h => h) (yieldsIf_load_mid (by rfl) 24 (.tmp 4) rfl (w.heap.size) (0) rfl (pc q) _ (fun w hSw => hSw.2.1) hu24 rfl hi24) hHeld ?_
        try simp only [Act.put, List.setIfInBounds_toArray, List.set_cons_zero, List.set_cons_succ]
        refine wpAnyH_ready (rs := [6]) (by kernel_rfl) (by simp) ?_
        refine AllReadyH.cons (o := ⟨some 30, _, _, _, _, _⟩) rfl (fun K hK => ?_) AllReadyH.nil
        go_simp
        refine (K40.out _ hHeld.2.2).mono ?_
        rintro x w5 ⟨rfl, hb5⟩
        try go_simp
        refine hK.out _ _ (HRG.out _ hb5) (fun hHeld2 => ?_)
        clear hK K hHeld
        have hHeld := hHeld2
        clear hHeld2
        try simp only [Act.put, List.setIfInBounds_toArray, List.set_cons_zero, List.set_cons_succ]
        refine wpAnyH_take (i := 7) (oi := ⟨some 31, _, _, _, _, _⟩) (v := ?_) rfl (by kernel_rfl) (by kernel_rfl) (by kernel_rfl) (fun _ _ _ h => h) (Or.inl ⟨by rfl, by (intro w hSw; (try dsimp only at hSw); go_simp; try with_reducible rfl)⟩) hHeld ?_
        try simp only [Act.put, List.setIfInBounds_toArray, List.set_cons_zero, List.set_cons_succ]
        refine wpAnyH_done (by kernel_rfl) ?_ _
        simp only [Exit.then]
        apply_assumption
        go_wp2
        go_roundw
        case rel => exact ⟨lo, c, rfl, by go_num, by omega, by omega, hHeld.2.2, H1, Lib.hid (fun t a ht ha => by
          by_cases htc : t = c
          · subst htc; rw [HCE.out] at ha; cases ha; have := HLQ.out; omega
          · have := srt_lt HS.out (show c < t by omega) HCE.out ha
            have := HLQ.out
            omega)⟩
        case measure => simp [intOf]; omega
    · have hlo : hi = lo := by omega
      subst hlo
      have hpl : plc L q = hi := plc_of (by rw [← HM.out]; exact him) H1.out H2.out
      have HPL := Lib.hid hpl
      by_cases hlm : hi < m
      · have hcm : hi < L.length := by rw [← HM.out]; omega
        have hce : L[hi]? = some L[hi] := List.getElem?_eq_getElem hcm
        obtain ⟨e, he⟩ : ∃ e, e = L[hi] := ⟨_, rfl⟩
        rw [← he] at hce
        have HCE := Lib.hid hce
        have hef : e.k < top := HF.out e (by rw [he]; exact List.getElem_mem hcm)
        obtain ⟨b, off, rfl, _⟩ := (HRW.out wr HB.out).get hce
        have HRG : Hid (∀ wz, Hid (Below W0.heap.size W0 wz) → wz.rangeAt b (off + hi * 18) (ec e) ∧ wz.rangeAt w.heap.size 0 (pc q) ∧ Hid (Below W0.heap.size W0 wz)) := Lib.hid (fun wz hb => by
          obtain ⟨b2, o2, e2, hr⟩ := (HRW.out wz hb.out).get HCE.out
          cases e2
          exact ⟨hr, HPW.out wz hb.out, hb⟩)
        have hi46 := info46 e
        have hi24 := info24 q
        have hu46 := Tryz.underlying46
        have hu24 := Tryz.underlying24
        obtain ⟨bb, hbb⟩ : ∃ bb, bb = has L q := ⟨_, rfl⟩
        obtain ⟨r, hr⟩ : ∃ r : Int, ordN e.k q = r ∧ (r == 0) = bb := by
          obtain ⟨a1, a2, a3⟩ := at_plc q HS.out
          rw [hpl] at a1 a2 a3
          refine ⟨_, rfl, ?_⟩
          rw [hbb]
          cases hh : has L q with
          | true =>
            have := a2 hh
            rw [hce] at this
            have hk := get_k L q
            rw [← Option.some.inj this] at hk
            unfold ordN; rw [hk]; simp
          | false =>
            have := (a3 hh).2 e hce
            unfold ordN; rw [if_neg (by omega), if_pos this]; rfl
        obtain ⟨er, e0⟩ := hr
        have K40 : Hid (∀ wz, Hid (Below W0.heap.size W0 wz) → Calls Tryz.prog 40 #[.agg (ec e).toArray, .agg (pc q).toArray] wz fun x w' => x = .returned (.int .i64 r) ∧ Hid (Below W0.heap.size W0 w')) :=
          Lib.hid (fun wz hb => (order_any e q hef HQ.out wz).mono fun x w' ⟨h1, h2⟩ => ⟨by rw [h1, er], Lib.hid (hb.out.trans (h2.mono hb.out.size))⟩)
        have q1 : (hi : Int) < (m : Int) := by omega
        have HBE := Lib.hid hbb
        clear hce he hef er hpl hbb
        have b2 : hi ≤ 1000000 := by omega
        go_wp2
        refine wp_region_held_drew (S := (fun wz => wz.rangeAt b (off + hi * 18) (ec e) ∧ wz.rangeAt w.heap.size 0 (pc q) ∧ Hid (Below W0.heap.size W0 wz))) (by kernel_rfl) (HRG.out _ (blH_drew HB)) (fun hHeld => ?_)
        refine wpAnyH_take (i := 0) (oi := ⟨some 35, _, _, _, _, _⟩) (v := ?_) rfl (by kernel_rfl) (by kernel_rfl) (by kernel_rfl) (fun _ _ _ h => h) (Or.inl ⟨by rfl, by (intro w hSw; (try dsimp only at hSw); go_simp; try with_reducible rfl)⟩) hHeld ?_
        try simp only [Act.put, List.setIfInBounds_toArray, List.set_cons_zero, List.set_cons_succ]
        refine wpAnyH_take (i := 1) (oi := ⟨some 36, _, _, _, _, _⟩) (v := ?_) rfl (by kernel_rfl) (by kernel_rfl) (by kernel_rfl) (fun _ _ _ h => h) (Or.inl ⟨by rfl, by (intro w hSw; (try dsimp only at hSw); go_simp; try with_reducible rfl)⟩) hHeld ?_
        try simp only [Act.put, List.setIfInBounds_toArray, List.set_cons_zero, List.set_cons_succ]
        refine wpAnyH_take (i := 2) (oi := ⟨some 37, _, _, _, _, _⟩) (v := ?_) rfl (by kernel_rfl) (by kernel_rfl) (by kernel_rfl) (fun _ _ _ h => h) (Or.inl ⟨by rfl, by (intro w hSw; (try dsimp only at hSw); go_simp; try with_reducible rfl)⟩) hHeld ?_
        try simp only [Act.put, List.setIfInBounds_toArray, List.set_cons_zero, List.set_cons_succ]
        refine wpAnyH_take (i := 3) (oi := ⟨some 38, _, _, _, _, _⟩) (v := ?_) rfl (by kernel_rfl) (by kernel_rfl) (by kernel_rfl) (fun _ _ _ h => h) (Or.inl ⟨by rfl, by (intro w hSw; (try dsimp only at hSw); go_simp; try with_reducible rfl)⟩) hHeld ?_
        try simp only [Act.put, List.setIfInBounds_toArray, List.set_cons_zero, List.set_cons_succ]
        refine wpAnyH_take (i := 4) (oi := ⟨some 39, _, _, _, _, _⟩) (v := ?_) rfl (by kernel_rfl) (by kernel_rfl) (by kernel_rfl) (fun _ _ _ h => h) (Or.inl ⟨by rfl, by (intro w hSw; (try dsimp only at hSw); go_simp; try with_reducible rfl)⟩) hHeld ?_
        try simp only [Act.put, List.setIfInBounds_toArray, List.set_cons_zero, List.set_cons_succ]
        refine wpAnyH_take (i := 5) (oi := ⟨some 40, _, _, _, _, _⟩) (v := ?_) rfl (by kernel_rfl) (by kernel_rfl) (by kernel_rfl) (fun _ _ _ h => h) (Or.inl ⟨by rfl, by (intro w hSw; (try dsimp only at hSw); go_simp; try with_reducible rfl)⟩) hHeld ?_
        try simp only [Act.put, List.setIfInBounds_toArray, List.set_cons_zero, List.set_cons_succ]
        refine wpAnyH_take (i := 6) (oi := ⟨some 41, _, _, _, _, _⟩) (v := ?_) rfl (by kernel_rfl) (by kernel_rfl) (by kernel_rfl) (fun _ _ _ h => h) (Or.inl ⟨by rfl, by (intro w hSw; (try dsimp only at hSw); go_simp; try with_reducible rfl)⟩) hHeld ?_
        try simp only [Act.put, List.setIfInBounds_toArray, List.set_cons_zero, List.set_cons_succ]
        refine wpAnyH_take (i := 7) (oi := ⟨some 42, _, _, _, _, _⟩) (v := ?_) rfl (by kernel_rfl) (by kernel_rfl) (by kernel_rfl) (fun _ _ _ h => h) (Or.inl ⟨by rfl, by (intro w hSw; (try dsimp only at hSw); go_simp; try with_reducible rfl)⟩) hHeld ?_
        try simp only [Act.put, List.setIfInBounds_toArray, List.set_cons_zero, List.set_cons_succ]
        refine wpAnyH_take (i := 8) (oi := ⟨some 43, _, _, _, _, _⟩) (v := ?_) rfl (by kernel_rfl) (by kernel_rfl) (by kernel_rfl) (fun _ _ _ h => h) (Or.inl ⟨by rfl, by (intro w hSw; (try dsimp only at hSw); go_simp; try with_reducible rfl)⟩) hHeld ?_
        try simp only [Act.put, List.setIfInBounds_toArray, List.set_cons_zero, List.set_cons_succ]
        refine wpAnyH_take (i := 9) (oi := ⟨some 44, _, _, _, _, _⟩) (v := .agg (ec e).toArray) rfl (by kernel_rfl) (by kernel_rfl) (by kernel_rfl) (fun _ _ _ h => h) (yieldsIf_load_mid (by rfl) 46 (.tmp 43) rfl (b) (off + hi * 18) rfl (ec e) _ (fun w hSw => hSw.1) hu46 rfl hi46) hHeld ?_
        try simp only [Act.put, List.setIfInBounds_toArray, List.set_cons_zero, List.set_cons_succ]
        refine wpAnyH_take (i := 10) (oi := ⟨some 45, _, _, _, _, _⟩) (v := .agg (pc q).toArray) rfl (by kernel_rfl) (by kernel_rfl) (by kernel_rfl) (fun _ _ _ h => h) (yieldsIf_load_mid (by rfl) 24 (.tmp 4) rfl (w.heap.size) (0) rfl (pc q) _ (fun w hSw => hSw.2.1) hu24 rfl hi24) hHeld ?_
        try simp only [Act.put, List.setIfInBounds_toArray, List.set_cons_zero, List.set_cons_succ]
        refine wpAnyH_ready (rs := [11]) (by kernel_rfl) (by simp) ?_
        refine AllReadyH.cons (o := ⟨some 46, _, _, _, _, _⟩) rfl (fun K hK => ?_) AllReadyH.nil
        go_simp
        refine (K40.out _ hHeld.2.2).mono ?_
        rintro x w5 ⟨rfl, hb5⟩
        try go_simp
        refine hK.out _ _ (HRG.out _ hb5) (fun hHeld2 => ?_)
        clear hK K hHeld
        have hHeld := hHeld2
        clear hHeld2
        try simp only [Act.put, List.setIfInBounds_toArray, List.set_cons_zero, List.set_cons_succ]
        refine wpAnyH_take (i := 12) (oi := ⟨some 47, _, _, _, _, _⟩) (v := ?_) rfl (by kernel_rfl) (by kernel_rfl) (by kernel_rfl) (fun _ _ _ h => h) (Or.inl ⟨by rfl, by (intro w hSw; (try dsimp only at hSw); go_simp; try with_reducible rfl)⟩) hHeld ?_
        try simp only [Act.put, List.setIfInBounds_toArray, List.set_cons_zero, List.set_cons_succ]
        refine wpAnyH_take (i := 13) (oi := ⟨some 48, _, _, _, _, _⟩) (v := ?_) rfl (by kernel_rfl) (by kernel_rfl) (by kernel_rfl) (fun _ _ _ h => h) (Or.inl ⟨by rfl, by (intro w hSw; (try dsimp only at hSw); go_simp; try with_reducible rfl)⟩) hHeld ?_
        try simp only [Act.put, List.setIfInBounds_toArray, List.set_cons_zero, List.set_cons_succ]
        refine wpAnyH_take (i := 14) (oi := ⟨some 6, _, _, _, _, _⟩) (v := ?_) rfl (by kernel_rfl) (by kernel_rfl) (by kernel_rfl) (fun _ _ _ h => h) (Or.inl ⟨by rfl, by (intro w hSw; (try dsimp only at hSw); go_simp; try with_reducible rfl)⟩) hHeld ?_
        try simp only [Act.put, List.setIfInBounds_toArray, List.set_cons_zero, List.set_cons_succ]
        refine wpAnyH_take (i := 15) (oi := ⟨some 7, _, _, _, _, _⟩) (v := ?_) rfl (by kernel_rfl) (by kernel_rfl) (by kernel_rfl) (fun _ _ _ h => h) (Or.inl ⟨by rfl, by (intro w hSw; (try dsimp only at hSw); go_simp; try with_reducible rfl)⟩) hHeld ?_
        try simp only [Act.put, List.setIfInBounds_toArray, List.set_cons_zero, List.set_cons_succ]
        refine wpAnyH_done (by kernel_rfl) ?_ _
        simp only [Exit.then]
        apply_assumption
        go_wp2
        go_ret2
        exact ⟨by show Ending.returned (Value.tuple #[.int .i64 (hi : Int), .bool bb]) = _; rw [HPL.out, ← HBE.out], HB0.out.trans (hHeld.2.2.out.mono HB0.out.size)⟩
      · have hmm : hi = m := by omega
        subst hmm
        have hno : has L q = false := by
          cases hh : has L q with
          | false => rfl
          | true => have := has_lt HS.out hh; rw [hpl] at this; have := HM.out; omega
        have HNO := Lib.hid hno
        clear hpl hno
        go_wp2
        refine wp_region_held_drew (S := (fun wz => Hid (Below W0.heap.size W0 wz))) (by kernel_rfl) (blH_drew HB) (fun hHeld => ?_)
        refine wpAnyH_take (i := 0) (oi := ⟨some 35, _, _, _, _, _⟩) (v := ?_) rfl (by kernel_rfl) (by kernel_rfl) (by kernel_rfl) (fun _ _ _ h => h) (Or.inl ⟨by rfl, by (intro w hSw; (try dsimp only at hSw); go_simp; try with_reducible rfl)⟩) hHeld ?_
        try simp only [Act.put, List.setIfInBounds_toArray, List.set_cons_zero, List.set_cons_succ]
        refine wpAnyH_take (i := 1) (oi := ⟨some 36, _, _, _, _, _⟩) (v := ?_) rfl (by kernel_rfl) (by kernel_rfl) (by kernel_rfl) (fun _ _ _ h => h) (Or.inl ⟨by rfl, by (intro w hSw; (try dsimp only at hSw); go_simp; try with_reducible rfl)⟩) hHeld ?_
        try simp only [Act.put, List.setIfInBounds_toArray, List.set_cons_zero, List.set_cons_succ]
        refine wpAnyH_take (i := 2) (oi := ⟨some 37, _, _, _, _, _⟩) (v := ?_) rfl (by kernel_rfl) (by kernel_rfl) (by kernel_rfl) (fun _ _ _ h => h) (Or.inl ⟨by rfl, by (intro w hSw; (try dsimp only at hSw); go_simp; try with_reducible rfl)⟩) hHeld ?_
        try simp only [Act.put, List.setIfInBounds_toArray, List.set_cons_zero, List.set_cons_succ]
        refine wpAnyH_take (i := 3) (oi := ⟨some 38, _, _, _, _, _⟩) (v := ?_) rfl (by kernel_rfl) (by kernel_rfl) (by kernel_rfl) (fun _ _ _ h => h) (Or.inl ⟨by rfl, by (intro w hSw; (try dsimp only at hSw); go_simp; try with_reducible rfl)⟩) hHeld ?_
        try simp only [Act.put, List.setIfInBounds_toArray, List.set_cons_zero, List.set_cons_succ]
        refine wpAnyH_take (i := 4) (oi := ⟨some 39, _, _, _, _, _⟩) (v := ?_) rfl (by kernel_rfl) (by kernel_rfl) (by kernel_rfl) (fun _ _ _ h => h) (Or.inl ⟨by rfl, by (intro w hSw; (try dsimp only at hSw); go_simp; try with_reducible rfl)⟩) hHeld ?_
        try simp only [Act.put, List.setIfInBounds_toArray, List.set_cons_zero, List.set_cons_succ]
        refine wpAnyH_take (i := 5) (oi := ⟨some 40, _, _, _, _, _⟩) (v := undef) rfl (by kernel_rfl) (by kernel_rfl) (by kernel_rfl) (fun _ _ _ h => h) (Or.inr ⟨by rfl, rfl⟩) hHeld ?_
        try simp only [Act.put, List.setIfInBounds_toArray, List.set_cons_zero, List.set_cons_succ]
        refine wpAnyH_take (i := 6) (oi := ⟨some 41, _, _, _, _, _⟩) (v := undef) rfl (by kernel_rfl) (by kernel_rfl) (by kernel_rfl) (fun _ _ _ h => h) (Or.inr ⟨by rfl, rfl⟩) hHeld ?_
        try simp only [Act.put, List.setIfInBounds_toArray, List.set_cons_zero, List.set_cons_succ]
        refine wpAnyH_take (i := 7) (oi := ⟨some 42, _, _, _, _, _⟩) (v := undef) rfl (by kernel_rfl) (by kernel_rfl) (by kernel_rfl) (fun _ _ _ h => h) (Or.inr ⟨by rfl, rfl⟩) hHeld ?_
        try simp only [Act.put, List.setIfInBounds_toArray, List.set_cons_zero, List.set_cons_succ]
        refine wpAnyH_take (i := 8) (oi := ⟨some 43, _, _, _, _, _⟩) (v := undef) rfl (by kernel_rfl) (by kernel_rfl) (by kernel_rfl) (fun _ _ _ h => h) (Or.inr ⟨by rfl, rfl⟩) hHeld ?_
        try simp only [Act.put, List.setIfInBounds_toArray, List.set_cons_zero, List.set_cons_succ]
        refine wpAnyH_take (i := 9) (oi := ⟨some 44, _, _, _, _, _⟩) (v := undef) rfl (by kernel_rfl) (by kernel_rfl) (by kernel_rfl) (fun _ _ _ h => h) (Or.inr ⟨by rfl, rfl⟩) hHeld ?_
        try simp only [Act.put, List.setIfInBounds_toArray, List.set_cons_zero, List.set_cons_succ]
        refine wpAnyH_take (i := 10) (oi := ⟨some 45, _, _, _, _, _⟩) (v := undef) rfl (by kernel_rfl) (by kernel_rfl) (by kernel_rfl) (fun _ _ _ h => h) (Or.inr ⟨by rfl, rfl⟩) hHeld ?_
        try simp only [Act.put, List.setIfInBounds_toArray, List.set_cons_zero, List.set_cons_succ]
        refine wpAnyH_take (i := 11) (oi := ⟨some 46, _, _, _, _, _⟩) (v := undef) rfl (by kernel_rfl) (by kernel_rfl) (by kernel_rfl) (fun _ _ _ h => h) (Or.inr ⟨by rfl, rfl⟩) hHeld ?_
        try simp only [Act.put, List.setIfInBounds_toArray, List.set_cons_zero, List.set_cons_succ]
        refine wpAnyH_take (i := 12) (oi := ⟨some 47, _, _, _, _, _⟩) (v := undef) rfl (by kernel_rfl) (by kernel_rfl) (by kernel_rfl) (fun _ _ _ h => h) (Or.inr ⟨by rfl, rfl⟩) hHeld ?_
        try simp only [Act.put, List.setIfInBounds_toArray, List.set_cons_zero, List.set_cons_succ]
        refine wpAnyH_take (i := 13) (oi := ⟨some 48, _, _, _, _, _⟩) (v := ?_) rfl (by kernel_rfl) (by kernel_rfl) (by kernel_rfl) (fun _ _ _ h => h) (Or.inl ⟨by rfl, by (intro w hSw; (try dsimp only at hSw); go_simp; try with_reducible rfl)⟩) hHeld ?_
        try simp only [Act.put, List.setIfInBounds_toArray, List.set_cons_zero, List.set_cons_succ]
        refine wpAnyH_take (i := 14) (oi := ⟨some 6, _, _, _, _, _⟩) (v := ?_) rfl (by kernel_rfl) (by kernel_rfl) (by kernel_rfl) (fun _ _ _ h => h) (Or.inl ⟨by rfl, by (intro w hSw; (try dsimp only at hSw); go_simp; try with_reducible rfl)⟩) hHeld ?_
        try simp only [Act.put, List.setIfInBounds_toArray, List.set_cons_zero, List.set_cons_succ]
        refine wpAnyH_take (i := 15) (oi := ⟨some 7, _, _, _, _, _⟩) (v := ?_) rfl (by kernel_rfl) (by kernel_rfl) (by kernel_rfl) (fun _ _ _ h => h) (Or.inl ⟨by rfl, by (intro w hSw; (try dsimp only at hSw); go_simp; try with_reducible rfl)⟩) hHeld ?_
        try simp only [Act.put, List.setIfInBounds_toArray, List.set_cons_zero, List.set_cons_succ]
        refine wpAnyH_done (by kernel_rfl) ?_ _
        simp only [Exit.then]
        apply_assumption
        go_wp2
        go_ret2
        exact ⟨by show Ending.returned (Value.tuple #[.int .i64 (hi : Int), .bool false]) = _; rw [HPL.out, HNO.out], HB0.out.trans (hHeld.out.mono HB0.out.size)⟩
end Go.Proofs.YtpcmmejlmhbcdaaGreat
