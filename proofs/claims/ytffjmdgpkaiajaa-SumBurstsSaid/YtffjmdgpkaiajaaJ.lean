/- Walk of the law WordBytes. -/
import Derived.Test.YtffjmdgpkaiajaaF
import Derived.Test.YtffjmdgpkaiajaaH
import Derived.Test.YtffjmdgpkaiajaaI
namespace Go.Proofs.Ytffjmdgpkaiajaa
open Go.RowKit

theorem wordBytes_great (a b : Nat) (size : Int) (s : ByteArray) (hs : 100 < s.size) (w : World) :
    Calls Try.prog 3 #[.int .u64 a, .int .u64 b, .int .i64 size, .string s] w fun e w' => e = .returned (.bool true) ∧ Below w.heap.size w w' := by
  have hB := Below.refl w.heap.size w
  go_enter Try.func3, Try.ntmps3
  go_wp2_with (first
    | (go_at_call 11; go_must (refine (awake_any _).mono ?_); rintro e w1 ⟨rfl, hb1⟩; replace hB := hB.trans (hb1.mono hB.size)))
  go_ret
  exact ⟨rfl, hB⟩

theorem empty_no (s : ByteArray) (h : 1 ≤ s.size) : s.toList.isEmpty = false := by
  rw [ByteArray.toList_eq]
  have e : s.data.toList.length = s.size := by simp
  cases hl : s.data.toList with
  | nil => rw [hl] at e; simp at e; omega
  | cons c l => rfl
theorem empty_yes (s : ByteArray) (h : s.size = 0) : s.toList.isEmpty = true := by
  rw [ByteArray.toList_eq]
  have e : s.data.toList.length = s.size := by simp
  rw [List.eq_nil_of_length_eq_zero (by omega : s.data.toList.length = 0)]
  rfl

theorem wordBytes_long (a b : Nat) (size : Int) (s : ByteArray) (ha : (a : Int) ≤ top64) (hb : (b : Int) ≤ top64) (hs : s.size ≤ 100) (hl : 8 < s.size) (w : World) :
    Calls Try.prog 3 #[.int .u64 a, .int .u64 b, .int .i64 size, .string s] w fun e w' => e = .returned (.bool true) ∧ Below w.heap.size w w' := by
  have k1 := fun w => add_any a b (by omega) (by omega) ha hb w
  have k2 := fun w => sub_any a b (by omega) ha w
  have k3 := fun w => put_any a size (by unfold top64 at ha; omega) w
  have k4 := fun w => rput_any a size (by unfold top64 at ha; omega) w
  have K5 := Lib.hid (fun w => get_long s hl hs w)
  have hw1 := wrap_le a b (by omega) (by omega)
  have hw2 := wrap_gt a b ha hb
  have hw3 : ¬ a < b → IntKind.u64.wrap ((a : Int) - b) = (a : Int) - b := by
    unfold top64 at ha
    intro h
    exact IntWalk.u64_in _ ⟨by omega, by omega⟩
  have hne := empty_no s (by omega)
  have hB := Below.refl w.heap.size w
  clear ha hb
  have K3 := Lib.hid k3
  have K4 := Lib.hid k4
  unfold addI top64 at k1
  unfold subI at k2
  unfold top64 at hw1 hw2
  clear k3 k4
  by_cases h1 : (a : Int) + b ≤ 18446744073709551615 <;> by_cases h2 : a < b
  · rw [if_pos h1] at k1
    rw [if_pos (by omega)] at k2
    have hw := hw1 h1
    have hlt : ¬ (a : Int) + b < a := by omega
    have K1 := Lib.hid k1
    have K2 := Lib.hid k2
    clear k1 k2 hw1 hw2 hw3 h1
    go_enter Try.func3, Try.ntmps3
    go_wp2_with (first
      | (go_at_call 11; go_must (refine (awake_any _).mono ?_); rintro e w1 ⟨rfl, hb1⟩; replace hB := hB.trans (hb1.mono hB.size))
      | (go_at_call 16; go_must (refine (K1.out _).mono ?_); rintro e w1 ⟨rfl, rfl⟩)
      | (go_at_call 17; go_must (refine (K2.out _).mono ?_); rintro e w1 ⟨rfl, rfl⟩)
      | (go_at_call 14; go_must (refine (K3.out _).mono ?_); rintro e w1 ⟨rfl, hb1⟩; replace hB := hB.trans (hb1.mono hB.size))
      | (go_at_call 15; go_must (refine (K4.out _).mono ?_); rintro e w1 ⟨rfl, hb1⟩; replace hB := hB.trans (hb1.mono hB.size))
      | (go_at_call 12; go_must (refine (K5.out _).mono ?_); rintro e w1 ⟨rfl, rfl⟩))
    go_ret
    exact ⟨rfl, hB⟩
  · rw [if_pos h1] at k1
    rw [if_neg (by omega)] at k2
    have hw := hw1 h1
    have hd := hw3 h2
    have hlt : ¬ (a : Int) + b < a := by omega
    have K1 := Lib.hid k1
    have K2 := Lib.hid k2
    clear k1 k2 hw1 hw2 hw3 h1
    go_enter Try.func3, Try.ntmps3
    go_wp2_with (first
      | (go_at_call 11; go_must (refine (awake_any _).mono ?_); rintro e w1 ⟨rfl, hb1⟩; replace hB := hB.trans (hb1.mono hB.size))
      | (go_at_call 16; go_must (refine (K1.out _).mono ?_); rintro e w1 ⟨rfl, rfl⟩)
      | (go_at_call 17; go_must (refine (K2.out _).mono ?_); rintro e w1 ⟨rfl, rfl⟩)
      | (go_at_call 14; go_must (refine (K3.out _).mono ?_); rintro e w1 ⟨rfl, hb1⟩; replace hB := hB.trans (hb1.mono hB.size))
      | (go_at_call 15; go_must (refine (K4.out _).mono ?_); rintro e w1 ⟨rfl, hb1⟩; replace hB := hB.trans (hb1.mono hB.size))
      | (go_at_call 12; go_must (refine (K5.out _).mono ?_); rintro e w1 ⟨rfl, rfl⟩))
    go_ret
    exact ⟨rfl, hB⟩
  · rw [if_neg h1] at k1
    rw [if_pos (by omega)] at k2
    have hw := hw2 h1
    have K1 := Lib.hid k1
    have K2 := Lib.hid k2
    clear k1 k2 hw1 hw2 hw3 h1
    go_enter Try.func3, Try.ntmps3
    go_wp2_with (first
      | (go_at_call 11; go_must (refine (awake_any _).mono ?_); rintro e w1 ⟨rfl, hb1⟩; replace hB := hB.trans (hb1.mono hB.size))
      | (go_at_call 16; go_must (refine (K1.out _).mono ?_); rintro e w1 ⟨rfl, rfl⟩)
      | (go_at_call 17; go_must (refine (K2.out _).mono ?_); rintro e w1 ⟨rfl, rfl⟩)
      | (go_at_call 14; go_must (refine (K3.out _).mono ?_); rintro e w1 ⟨rfl, hb1⟩; replace hB := hB.trans (hb1.mono hB.size))
      | (go_at_call 15; go_must (refine (K4.out _).mono ?_); rintro e w1 ⟨rfl, hb1⟩; replace hB := hB.trans (hb1.mono hB.size))
      | (go_at_call 12; go_must (refine (K5.out _).mono ?_); rintro e w1 ⟨rfl, rfl⟩))
    go_ret
    exact ⟨rfl, hB⟩
  · rw [if_neg h1] at k1
    rw [if_neg (by omega)] at k2
    have hw := hw2 h1
    have hd := hw3 h2
    have K1 := Lib.hid k1
    have K2 := Lib.hid k2
    clear k1 k2 hw1 hw2 hw3 h1
    go_enter Try.func3, Try.ntmps3
    go_wp2_with (first
      | (go_at_call 11; go_must (refine (awake_any _).mono ?_); rintro e w1 ⟨rfl, hb1⟩; replace hB := hB.trans (hb1.mono hB.size))
      | (go_at_call 16; go_must (refine (K1.out _).mono ?_); rintro e w1 ⟨rfl, rfl⟩)
      | (go_at_call 17; go_must (refine (K2.out _).mono ?_); rintro e w1 ⟨rfl, rfl⟩)
      | (go_at_call 14; go_must (refine (K3.out _).mono ?_); rintro e w1 ⟨rfl, hb1⟩; replace hB := hB.trans (hb1.mono hB.size))
      | (go_at_call 15; go_must (refine (K4.out _).mono ?_); rintro e w1 ⟨rfl, hb1⟩; replace hB := hB.trans (hb1.mono hB.size))
      | (go_at_call 12; go_must (refine (K5.out _).mono ?_); rintro e w1 ⟨rfl, rfl⟩))
    go_ret
    exact ⟨rfl, hB⟩

theorem wordBytes_short (a b : Nat) (size : Int) (s : ByteArray) (ha : (a : Int) ≤ top64) (hb : (b : Int) ≤ top64) (hs : s.size = 0) (w : World) :
    Calls Try.prog 3 #[.int .u64 a, .int .u64 b, .int .i64 size, .string s] w fun e w' => e = .returned (.bool true) ∧ Below w.heap.size w w' := by
  have k1 := fun w => add_any a b (by omega) (by omega) ha hb w
  have k2 := fun w => sub_any a b (by omega) ha w
  have k3 := fun w => put_any a size (by unfold top64 at ha; omega) w
  have k4 := fun w => rput_any a size (by unfold top64 at ha; omega) w
  have K5 := Lib.hid (fun w => get_short s hs w)
  have hw1 := wrap_le a b (by omega) (by omega)
  have hw2 := wrap_gt a b ha hb
  have hw3 : ¬ a < b → IntKind.u64.wrap ((a : Int) - b) = (a : Int) - b := by
    unfold top64 at ha
    intro h
    exact IntWalk.u64_in _ ⟨by omega, by omega⟩
  have hne := empty_yes s hs
  have hB := Below.refl w.heap.size w
  clear ha hb
  have K3 := Lib.hid k3
  have K4 := Lib.hid k4
  unfold addI top64 at k1
  unfold subI at k2
  unfold top64 at hw1 hw2
  clear k3 k4
  by_cases h1 : (a : Int) + b ≤ 18446744073709551615 <;> by_cases h2 : a < b
  · rw [if_pos h1] at k1
    rw [if_pos (by omega)] at k2
    have hw := hw1 h1
    have hlt : ¬ (a : Int) + b < a := by omega
    have K1 := Lib.hid k1
    have K2 := Lib.hid k2
    clear k1 k2 hw1 hw2 hw3 h1
    go_enter Try.func3, Try.ntmps3
    go_wp2_with (first
      | (go_at_call 11; go_must (refine (awake_any _).mono ?_); rintro e w1 ⟨rfl, hb1⟩; replace hB := hB.trans (hb1.mono hB.size))
      | (go_at_call 16; go_must (refine (K1.out _).mono ?_); rintro e w1 ⟨rfl, rfl⟩)
      | (go_at_call 17; go_must (refine (K2.out _).mono ?_); rintro e w1 ⟨rfl, rfl⟩)
      | (go_at_call 14; go_must (refine (K3.out _).mono ?_); rintro e w1 ⟨rfl, hb1⟩; replace hB := hB.trans (hb1.mono hB.size))
      | (go_at_call 15; go_must (refine (K4.out _).mono ?_); rintro e w1 ⟨rfl, hb1⟩; replace hB := hB.trans (hb1.mono hB.size))
      | (go_at_call 12; go_must (refine (K5.out _).mono ?_); rintro e w1 ⟨rfl, rfl⟩))
    go_ret
    exact ⟨rfl, hB⟩
  · rw [if_pos h1] at k1
    rw [if_neg (by omega)] at k2
    have hw := hw1 h1
    have hd := hw3 h2
    have hlt : ¬ (a : Int) + b < a := by omega
    have K1 := Lib.hid k1
    have K2 := Lib.hid k2
    clear k1 k2 hw1 hw2 hw3 h1
    go_enter Try.func3, Try.ntmps3
    go_wp2_with (first
      | (go_at_call 11; go_must (refine (awake_any _).mono ?_); rintro e w1 ⟨rfl, hb1⟩; replace hB := hB.trans (hb1.mono hB.size))
      | (go_at_call 16; go_must (refine (K1.out _).mono ?_); rintro e w1 ⟨rfl, rfl⟩)
      | (go_at_call 17; go_must (refine (K2.out _).mono ?_); rintro e w1 ⟨rfl, rfl⟩)
      | (go_at_call 14; go_must (refine (K3.out _).mono ?_); rintro e w1 ⟨rfl, hb1⟩; replace hB := hB.trans (hb1.mono hB.size))
      | (go_at_call 15; go_must (refine (K4.out _).mono ?_); rintro e w1 ⟨rfl, hb1⟩; replace hB := hB.trans (hb1.mono hB.size))
      | (go_at_call 12; go_must (refine (K5.out _).mono ?_); rintro e w1 ⟨rfl, rfl⟩))
    go_ret
    exact ⟨rfl, hB⟩
  · rw [if_neg h1] at k1
    rw [if_pos (by omega)] at k2
    have hw := hw2 h1
    have K1 := Lib.hid k1
    have K2 := Lib.hid k2
    clear k1 k2 hw1 hw2 hw3 h1
    go_enter Try.func3, Try.ntmps3
    go_wp2_with (first
      | (go_at_call 11; go_must (refine (awake_any _).mono ?_); rintro e w1 ⟨rfl, hb1⟩; replace hB := hB.trans (hb1.mono hB.size))
      | (go_at_call 16; go_must (refine (K1.out _).mono ?_); rintro e w1 ⟨rfl, rfl⟩)
      | (go_at_call 17; go_must (refine (K2.out _).mono ?_); rintro e w1 ⟨rfl, rfl⟩)
      | (go_at_call 14; go_must (refine (K3.out _).mono ?_); rintro e w1 ⟨rfl, hb1⟩; replace hB := hB.trans (hb1.mono hB.size))
      | (go_at_call 15; go_must (refine (K4.out _).mono ?_); rintro e w1 ⟨rfl, hb1⟩; replace hB := hB.trans (hb1.mono hB.size))
      | (go_at_call 12; go_must (refine (K5.out _).mono ?_); rintro e w1 ⟨rfl, rfl⟩))
    go_ret
    exact ⟨rfl, hB⟩
  · rw [if_neg h1] at k1
    rw [if_neg (by omega)] at k2
    have hw := hw2 h1
    have hd := hw3 h2
    have K1 := Lib.hid k1
    have K2 := Lib.hid k2
    clear k1 k2 hw1 hw2 hw3 h1
    go_enter Try.func3, Try.ntmps3
    go_wp2_with (first
      | (go_at_call 11; go_must (refine (awake_any _).mono ?_); rintro e w1 ⟨rfl, hb1⟩; replace hB := hB.trans (hb1.mono hB.size))
      | (go_at_call 16; go_must (refine (K1.out _).mono ?_); rintro e w1 ⟨rfl, rfl⟩)
      | (go_at_call 17; go_must (refine (K2.out _).mono ?_); rintro e w1 ⟨rfl, rfl⟩)
      | (go_at_call 14; go_must (refine (K3.out _).mono ?_); rintro e w1 ⟨rfl, hb1⟩; replace hB := hB.trans (hb1.mono hB.size))
      | (go_at_call 15; go_must (refine (K4.out _).mono ?_); rintro e w1 ⟨rfl, hb1⟩; replace hB := hB.trans (hb1.mono hB.size))
      | (go_at_call 12; go_must (refine (K5.out _).mono ?_); rintro e w1 ⟨rfl, rfl⟩))
    go_ret
    exact ⟨rfl, hB⟩

theorem wordBytes_fine (a b : Nat) (size : Int) (s : ByteArray) (ha : (a : Int) ≤ top64) (hb : (b : Int) ≤ top64) (hs : 1 ≤ s.size) (hl : s.size ≤ 8) (w : World) :
    Calls Try.prog 3 #[.int .u64 a, .int .u64 b, .int .i64 size, .string s] w fun e w' => e = .returned (.bool true) ∧ Below w.heap.size w w' := by
  have k1 := fun w => add_any a b (by omega) (by omega) ha hb w
  have k2 := fun w => sub_any a b (by omega) ha w
  have k3 := fun w => put_any a size (by unfold top64 at ha; omega) w
  have k4 := fun w => rput_any a size (by unfold top64 at ha; omega) w
  have K5 := Lib.hid (fun w => get_ok s hs hl w)
  have K6 := Lib.hid (fun w => rget_ok s hl w)
  have hw1 := wrap_le a b (by omega) (by omega)
  have hw2 := wrap_gt a b ha hb
  have hw3 : ¬ a < b → IntKind.u64.wrap ((a : Int) - b) = (a : Int) - b := by
    unfold top64 at ha
    intro h
    exact IntWalk.u64_in _ ⟨by omega, by omega⟩
  have hne := empty_no s hs
  have hB := Below.refl w.heap.size w
  clear ha hb
  have K3 := Lib.hid k3
  have K4 := Lib.hid k4
  unfold addI top64 at k1
  unfold subI at k2
  unfold top64 at hw1 hw2
  clear k3 k4
  by_cases h1 : (a : Int) + b ≤ 18446744073709551615 <;> by_cases h2 : a < b
  · rw [if_pos h1] at k1
    rw [if_pos (by omega)] at k2
    have hw := hw1 h1
    have hlt : ¬ (a : Int) + b < a := by omega
    have K1 := Lib.hid k1
    have K2 := Lib.hid k2
    clear k1 k2 hw1 hw2 hw3 h1
    go_enter Try.func3, Try.ntmps3
    go_wp2_with (first
      | (go_at_call 11; go_must (refine (awake_any _).mono ?_); rintro e w1 ⟨rfl, hb1⟩; replace hB := hB.trans (hb1.mono hB.size))
      | (go_at_call 16; go_must (refine (K1.out _).mono ?_); rintro e w1 ⟨rfl, rfl⟩)
      | (go_at_call 17; go_must (refine (K2.out _).mono ?_); rintro e w1 ⟨rfl, rfl⟩)
      | (go_at_call 14; go_must (refine (K3.out _).mono ?_); rintro e w1 ⟨rfl, hb1⟩; replace hB := hB.trans (hb1.mono hB.size))
      | (go_at_call 15; go_must (refine (K4.out _).mono ?_); rintro e w1 ⟨rfl, hb1⟩; replace hB := hB.trans (hb1.mono hB.size))
      | (go_at_call 13; go_must (refine (K6.out _).mono ?_); rintro e w1 ⟨rfl, rfl⟩)
      | (go_at_call 12; go_must (refine (K5.out _).mono ?_); rintro e w1 ⟨rfl, rfl⟩))
    go_ret
    exact ⟨rfl, hB⟩
  · rw [if_pos h1] at k1
    rw [if_neg (by omega)] at k2
    have hw := hw1 h1
    have hd := hw3 h2
    have hlt : ¬ (a : Int) + b < a := by omega
    have K1 := Lib.hid k1
    have K2 := Lib.hid k2
    clear k1 k2 hw1 hw2 hw3 h1
    go_enter Try.func3, Try.ntmps3
    go_wp2_with (first
      | (go_at_call 11; go_must (refine (awake_any _).mono ?_); rintro e w1 ⟨rfl, hb1⟩; replace hB := hB.trans (hb1.mono hB.size))
      | (go_at_call 16; go_must (refine (K1.out _).mono ?_); rintro e w1 ⟨rfl, rfl⟩)
      | (go_at_call 17; go_must (refine (K2.out _).mono ?_); rintro e w1 ⟨rfl, rfl⟩)
      | (go_at_call 14; go_must (refine (K3.out _).mono ?_); rintro e w1 ⟨rfl, hb1⟩; replace hB := hB.trans (hb1.mono hB.size))
      | (go_at_call 15; go_must (refine (K4.out _).mono ?_); rintro e w1 ⟨rfl, hb1⟩; replace hB := hB.trans (hb1.mono hB.size))
      | (go_at_call 13; go_must (refine (K6.out _).mono ?_); rintro e w1 ⟨rfl, rfl⟩)
      | (go_at_call 12; go_must (refine (K5.out _).mono ?_); rintro e w1 ⟨rfl, rfl⟩))
    go_ret
    exact ⟨rfl, hB⟩
  · rw [if_neg h1] at k1
    rw [if_pos (by omega)] at k2
    have hw := hw2 h1
    have K1 := Lib.hid k1
    have K2 := Lib.hid k2
    clear k1 k2 hw1 hw2 hw3 h1
    go_enter Try.func3, Try.ntmps3
    go_wp2_with (first
      | (go_at_call 11; go_must (refine (awake_any _).mono ?_); rintro e w1 ⟨rfl, hb1⟩; replace hB := hB.trans (hb1.mono hB.size))
      | (go_at_call 16; go_must (refine (K1.out _).mono ?_); rintro e w1 ⟨rfl, rfl⟩)
      | (go_at_call 17; go_must (refine (K2.out _).mono ?_); rintro e w1 ⟨rfl, rfl⟩)
      | (go_at_call 14; go_must (refine (K3.out _).mono ?_); rintro e w1 ⟨rfl, hb1⟩; replace hB := hB.trans (hb1.mono hB.size))
      | (go_at_call 15; go_must (refine (K4.out _).mono ?_); rintro e w1 ⟨rfl, hb1⟩; replace hB := hB.trans (hb1.mono hB.size))
      | (go_at_call 13; go_must (refine (K6.out _).mono ?_); rintro e w1 ⟨rfl, rfl⟩)
      | (go_at_call 12; go_must (refine (K5.out _).mono ?_); rintro e w1 ⟨rfl, rfl⟩))
    go_ret
    exact ⟨rfl, hB⟩
  · rw [if_neg h1] at k1
    rw [if_neg (by omega)] at k2
    have hw := hw2 h1
    have hd := hw3 h2
    have K1 := Lib.hid k1
    have K2 := Lib.hid k2
    clear k1 k2 hw1 hw2 hw3 h1
    go_enter Try.func3, Try.ntmps3
    go_wp2_with (first
      | (go_at_call 11; go_must (refine (awake_any _).mono ?_); rintro e w1 ⟨rfl, hb1⟩; replace hB := hB.trans (hb1.mono hB.size))
      | (go_at_call 16; go_must (refine (K1.out _).mono ?_); rintro e w1 ⟨rfl, rfl⟩)
      | (go_at_call 17; go_must (refine (K2.out _).mono ?_); rintro e w1 ⟨rfl, rfl⟩)
      | (go_at_call 14; go_must (refine (K3.out _).mono ?_); rintro e w1 ⟨rfl, hb1⟩; replace hB := hB.trans (hb1.mono hB.size))
      | (go_at_call 15; go_must (refine (K4.out _).mono ?_); rintro e w1 ⟨rfl, hb1⟩; replace hB := hB.trans (hb1.mono hB.size))
      | (go_at_call 13; go_must (refine (K6.out _).mono ?_); rintro e w1 ⟨rfl, rfl⟩)
      | (go_at_call 12; go_must (refine (K5.out _).mono ?_); rintro e w1 ⟨rfl, rfl⟩))
    go_ret
    exact ⟨rfl, hB⟩

theorem wordBytes_walk (a b : Nat) (size : Int) (s : ByteArray) (ha : (a : Int) ≤ top64) (hb : (b : Int) ≤ top64) (w : World) :
    Calls Try.prog 3 #[.int .u64 a, .int .u64 b, .int .i64 size, .string s] w fun e w' => e = .returned (.bool true) ∧ Below w.heap.size w w' := by
  by_cases h1 : 100 < s.size
  · exact wordBytes_great a b size s h1 w
  · by_cases h2 : 8 < s.size
    · exact wordBytes_long a b size s ha hb (by omega) h2 w
    · by_cases h3 : s.size = 0
      · exact wordBytes_short a b size s ha hb h3 w
      · exact wordBytes_fine a b size s ha hb (by omega) (by omega) w
end Go.Proofs.Ytffjmdgpkaiajaa
