/- Walk of DigestWhole. -/
import Derived.Test.YtfakkbjnapelfaaDU
namespace Go.Proofs.Ytfakkbjnapelfaa.Dg
open Go.RowKit

set_option maxRecDepth 1000000 in
theorem k_any (w : World) : Calls Try.prog 24 #[] w fun e w' => e = .returned (.slice (some ⟨w.heap.size, 0, none⟩) 64 64) ∧ UB w.heap.size 51 KS w' ∧ Below w.heap.size w w' := by
  go_enter Try.func24, Try.ntmps24
  go_wp2
  go_ret
  exact ⟨rfl, ub_new w KS 51, (Below.refl _ _).alloc (Nat.le_refl _) _⟩

theorem keys_row (w : World) {A : Array Value} (hA : A = u32c (List.replicate 64 0)) : UB w.heap.size 52 (List.replicate 64 0) (w.alloc (.cells A 52)) := by subst hA; exact ub_new w _ 52
set_option maxRecDepth 1000000 in
set_option maxHeartbeats 2000000 in
theorem dwhole_walk (s : ByteArray) (w : World) : Calls Try.prog 6 #[.string s] w fun e w' => e = .returned (.bool true) ∧ Below w.heap.size w w' := by
  obtain ⟨l, hl⟩ : ∃ l, s = W.str l := ⟨s.data.toList, by unfold W.str; simp⟩
  have HS0 := Lib.hid hl
  obtain ⟨n, hn⟩ : ∃ n, s.size = n := ⟨_, rfl⟩
  have hln : l.length = n := by rw [← hn, hl, W.size_str]
  have n0 : (0 : Int) ≤ n := by omega
  by_cases hbig : 1000 < n
  · have hb : (1000 : Int) < n := by omega
    clear hl hln
    go_enter Try.func6, Try.ntmps6
    go_wp2_with (first | (go_at_call 16; go_must (refine (awake_sum _).mono ?_); rintro e w1 ⟨rfl, hb1⟩))
    go_ret
    exact ⟨rfl, hb1⟩
  · have hb : (n : Int) ≤ 1000 := by omega
    have KW : Hid (∀ w, Calls Try.prog 25 #[.string s] w fun e w' => e = .returned (.string (W.str (wholeL l))) ∧ Below w.heap.size w w') := Lib.hid (fun w => by rw [hl]; exact whole_any l (by omega) w)
    have KP : Hid (∀ w, Calls Try.prog 26 #[.string s] w fun e w' => e = .returned (.string (W.str (wholeL l))) ∧ Below w.heap.size w w') := Lib.hid (fun w => by rw [hl]; exact pad_any l (by omega) w)
    clear hl hln hbig
    generalize W.str (wholeL l) = t at *
    go_enter Try.func6, Try.ntmps6
    go_upto_region 6 with (first
      | (go_at_call 16; go_must (refine (awake_sum _).mono ?_); rintro e w1 ⟨rfl, hb1⟩)
      | (go_at_call 23; go_must (refine (keys_any _).mono ?_); rintro e w2 ⟨rfl, hb2⟩)
      | (refine wpList_store_ub rfl 52 (.tmp 3) (.tmp 11) rfl (keys_row _ keys_zero) (l2 := KS) keys_info rfl rfl rfl ?_))
    rw [keys_zero]
    have hw2 := hb1.trans (hb2.mono hb1.size)
    have hw3 := hw2.alloc hw2.size (.cells (u32c (List.replicate 64 0)) 52)
    refine gen_wp (S := fun wz => Hid (UB w2.heap.size 52 KS wz) ∧ Hid (Below w.heap.size w wz)) ⟨Lib.hid ((ub_new w2 (List.replicate 64 0) 52).row KS), Lib.hid (below_row hw3 hw2.size _)⟩ ?_
    intro W3 H3
    obtain ⟨hU3, hB3⟩ := H3
    clear hb1 hb2 hw2 hw3
    generalize w2.heap.size = g at *
    go_wp2_with (first | (go_at_call 24; go_must (refine (k_any _).mono ?_); rintro e w4 ⟨rfl, hU4, hb4⟩))
    have HU4 := Lib.hid hU4
    have HU5 := Lib.hid (hU3.out.later hb4)
    have HB5 := Lib.hid (hB3.out.trans (hb4.mono hB3.out.size))
    clear hU4 hb4 hU3 hB3
    generalize W3.heap.size = q at *
    go_loopw [14] (fun i wr => ∃ j : Nat, j ≤ 64 ∧ i = .int .i64 (j : Int) ∧ w4 = wr) (fun i _ => 64 - (intOf i).toNat)
    case atStart => exact ⟨0, by omega, rfl, rfl⟩
    case round =>
      obtain ⟨j, hj, rfl, rfl⟩ := hrel
      by_cases hj64 : j < 64
      · have c1 := HU4.out.cell j hj64
        have c2 := HU5.out.cell j hj64
        have j0 : (0 : Int) ≤ j := by omega
        have j6 : (j : Int) < 64 := by omega
        generalize KS[j]'hj64 = x at *
        go_wp2
        go_roundw
        case rel => exact ⟨j + 1, by omega, by go_num, trivial⟩
        case measure => simp [intOf]; omega
      · obtain rfl : j = 64 := by omega
        go_wp2_with (first
          | (go_at_call 25; go_must (refine (KW.out _).mono ?_); rintro e w5 ⟨rfl, hb5⟩)
          | (go_at_call 26; go_must (refine (KP.out _).mono ?_); rintro e w6 ⟨rfl, hb6⟩))
        go_ret
        have hc := HB5.out.trans (hb5.mono HB5.out.size)
        exact ⟨rfl, hc.trans (hb6.mono hc.size)⟩
end Go.Proofs.Ytfakkbjnapelfaa.Dg
