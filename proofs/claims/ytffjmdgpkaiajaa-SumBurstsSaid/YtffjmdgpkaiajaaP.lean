/- Walk of the law SumSums. -/
import Derived.Test.YtffjmdgpkaiajaaO
namespace Go.Proofs.Ytffjmdgpkaiajaa
open Go.RowKit

theorem wf32 {a : Int} (h : (Lit.int .u32 a).wf = true) : 0 ≤ a ∧ a < 4294967296 := by
  simp [Lit.wf, IntKind.min, IntKind.max, IntKind.signed, IntKind.bits] at h
  omega
theorem wf8 {a : Int} (h : (Lit.int .u8 a).wf = true) : 0 ≤ a ∧ a < 256 := by
  simp [Lit.wf, IntKind.min, IntKind.max, IntKind.signed, IntKind.bits] at h
  omega
theorem toList_add (s t : ByteArray) : (s ++ t).data.toList = s.data.toList ++ t.data.toList := by simp
theorem size_add (s t : ByteArray) : (s ++ t).size = s.size + t.size := ByteArray.size_append

theorem sumSums_great (s t : ByteArray) (n c : Nat) (hs : s.size ≤ 140737488351232) (ht : t.size ≤ 140737488351232) (hgr : 2000 < s.size + t.size) (w : World) :
    Calls Try.prog 6 #[.string s, .string t, .int .u32 n, .int .u8 c] w fun e w' => e = .returned (.bool true) ∧ Below w.heap.size w w' := by
  have hB := Below.refl w.heap.size w
  go_enter Try.func6, Try.ntmps6
  go_wp2_with (first
    | (go_at_call 19; go_must (refine (awake2_any _).mono ?_); rintro e w1 ⟨rfl, hb1⟩; replace hB := hB.trans (hb1.mono hB.size)))
  go_ret
  exact ⟨rfl, hB⟩

theorem law_odd (m : Nat) (h : m < 4294967296) (ho : m % 2 = 1) : bits BinOp.and IntKind.u32 (m : Int) 1 = 1 ∧ bits BinOp.xor IntKind.u32 ((m : Int) / 2) 2197175160 = (bit m : Int) := bit_odd m h ho
theorem law_even (m : Nat) (h : m < 4294967296) (ho : ¬ m % 2 = 1) : bits BinOp.and IntKind.u32 (m : Int) 1 = 0 ∧ bits BinOp.xor IntKind.u32 ((m : Int) / 2) 0 = (bit m : Int) := by
  obtain ⟨f1, f2⟩ := bit_even m h ho
  refine ⟨f1, ?_⟩
  rw [f2]
  have := u32_xor_nat (bit m) 0 (bit_lt m h) (by omega)
  rw [Nat.xor_zero] at this
  exact this

set_option maxHeartbeats 2000000 in
theorem sumSums_fine (s t : ByteArray) (n c : Nat) (hn : n < 4294967296) (hc : c < 256) (hl : s.size + t.size ≤ 2000) (w : World) :
    Calls Try.prog 6 #[.string s, .string t, .int .u32 n, .int .u8 c] w fun e w' => e = .returned (.bool true) ∧ Below w.heap.size w w' := by
  have k1 := fun w g hg => crc_three s ⟨#[]⟩ t w g hg (by omega) (by decide) (by omega)
  have k2 := fun w => rcrc_one (s ++ t) w (by rw [size_add]; omega)
  have k3 := fun w g hg => quick_two s t w g hg (by omega) (by omega)
  have k4 := fun w => rquick_any (s ++ t) w (by rw [size_add]; omega)
  have k5 := fun w => step_any n c hn hc w
  have hadd := fun W => run_string_add_sum (P := Try.prog) W s t (by omega)
  have hx := u32_xor_nat n c hn (by omega)
  have hm0 := xor_lt n c hn (by omega)
  rw [show ((⟨#[]⟩ : ByteArray).data.toList ++ t.data.toList) = t.data.toList by rfl] at k1
  rw [toList_add] at k2 k4
  generalize crcV (s.data.toList ++ t.data.toList) = V at *
  generalize quick0 (s.data.toList ++ t.data.toList) = Q at *
  have hbn : bitN 8 (n ^^^ c) = stepN n c := rfl
  generalize stepN n c = N at *
  generalize n ^^^ c = m0 at *
  have K1 := Lib.hid k1
  have K2 := Lib.hid k2
  have K3 := Lib.hid k3
  have K4 := Lib.hid k4
  have K5 := Lib.hid k5
  have HB := Lib.hid hbn
  have HM0 := Lib.hid hm0
  clear k1 k2 k3 k4 k5 hbn hm0 hn
  have hB := Below.refl w.heap.size w
  go_enter Try.func6, Try.ntmps6
  go_wp2_with (first
    | (go_at_call 19; go_must (refine (awake2_any _).mono ?_); rintro e w1 ⟨rfl, hb1⟩; replace hB := hB.trans (hb1.mono hB.size)))
  go_loop [9, 22] (fun x i => ∃ k m : Nat, k ≤ 8 ∧ i = .int .i64 k ∧ x = .int .u32 m ∧ m < 4294967296 ∧ bitN (8 - k) m = N) (fun _ i => 8 - (intOf i).toNat)
  case atStart => exact ⟨0, m0, Nat.zero_le _, rfl, rfl, HM0.out, HB.out⟩
  case round =>
    obtain ⟨k, m, hk, rfl, rfl, hm, hb⟩ := hrel
    have HBB := Lib.hid hb
    have HM := Lib.hid hm
    clear hb
    by_cases hk8 : k < 8
    · by_cases ho : m % 2 = 1
      · obtain ⟨f1, f2⟩ := law_odd m hm ho
        clear ho hm
        go_wp2
        go_round
        case rel => exact ⟨k + 1, bit m, by omega, by go_num, rfl, bit_lt m HM.out, by rw [← HBB.out, show 8 - k = (8 - (k + 1)) + 1 by omega]; rfl⟩
        case measure => simp [intOf]; omega
      · obtain ⟨f1, f2⟩ := law_even m hm ho
        clear ho hm
        go_wp2
        go_round
        case rel => exact ⟨k + 1, bit m, by omega, by go_num, rfl, bit_lt m HM.out, by rw [← HBB.out, show 8 - k = (8 - (k + 1)) + 1 by omega]; rfl⟩
        case measure => simp [intOf]; omega
    · have e : m = N := by rw [← HBB.out, show 8 - k = 0 by omega]; rfl
      subst e
      clear hm
      go_wp2_with (first
        | (go_at_call 20; go_must (refine (K1.out _ _ (by simp)).mono ?_); rintro e w2 ⟨rfl, rfl⟩)
        | (go_at_call 21; go_must (refine (K2.out _).mono ?_); rintro e w2 ⟨rfl, rfl⟩)
        | (go_at_call 22; go_must (refine (K3.out _ _ (by simp)).mono ?_); rintro e w2 ⟨rfl, rfl⟩)
        | (go_at_call 23; go_must (refine (K4.out _).mono ?_); rintro e w2 ⟨rfl, rfl⟩)
        | (go_at_call 24; go_must (refine (K5.out _).mono ?_); rintro e w2 ⟨rfl, rfl⟩))
      go_ret
      exact ⟨rfl, (hB.alloc hB.size _).alloc (by have := hB.size; simp; omega) _⟩

theorem sumSums_walk (s t : ByteArray) (n c : Nat) (hs : s.size ≤ 140737488351232) (ht : t.size ≤ 140737488351232) (hn : n < 4294967296) (hc : c < 256) (w : World) :
    Calls Try.prog 6 #[.string s, .string t, .int .u32 n, .int .u8 c] w fun e w' => e = .returned (.bool true) ∧ Below w.heap.size w w' := by
  by_cases h : 2000 < s.size + t.size
  · exact sumSums_great s t n c hs ht h w
  · exact sumSums_fine s t n c hn hc (by omega) w
end Go.Proofs.Ytffjmdgpkaiajaa
