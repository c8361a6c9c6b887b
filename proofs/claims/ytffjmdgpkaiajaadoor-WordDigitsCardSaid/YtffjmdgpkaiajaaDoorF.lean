/- Walk of the law WordDigits. -/
import Derived.Test.YtffjmdgpkaiajaaDoorA
import Derived.Test.YtffjmdgpkaiajaaDoorE
namespace Go.Proofs.YtffjmdgpkaiajaaDoor
open Go.RowKit

theorem law_great (n : Nat) (s : ByteArray) (hs : 100 < s.size) (w : World) :
    Calls Tryd.prog 3 #[.int .u64 n, .string s] w fun e w' => e = .returned (.bool true) ∧ Below w.heap.size w w' := by
  have hB := Below.refl w.heap.size w
  go_enter Tryd.func3, Tryd.ntmps3
  go_wp2_with (first
    | (go_at_call 4; go_must (refine (awake_any _).mono ?_); rintro e w1 ⟨rfl, hb1⟩; replace hB := hB.trans (hb1.mono hB.size)))
  go_ret
  exact ⟨rfl, hB⟩

theorem law_no (n : Nat) (s t : ByteArray) (hs : s.size ≤ 100) (E : Int) (hE : E = 4 ∨ E = 7) (w : World)
    (k1 : ∀ w', Below w.heap.size w w' → Calls Tryd.prog 5 #[.int .u64 n] w' fun e w'' => e = .returned (.string t) ∧ Below w'.heap.size w' w'')
    (k2 : ∀ w', Calls Tryd.prog 6 #[.string t] w' fun e w'' => e = .returned (.tuple #[.int .u64 n, .int .i64 0]) ∧ Below w'.heap.size w' w'')
    (k3 : ∀ w', Below w.heap.size w w' → Calls Tryd.prog 6 #[.string s] w' fun e w'' => e = .returned (.tuple #[.int .u64 0, .int .i64 E]) ∧ Below w'.heap.size w' w'')
    (k4 : ∀ w', Calls Tryd.prog 7 #[.string s] w' fun e w'' => e = .returned (.tuple #[.int .u64 0, .int .i64 E]) ∧ w' = w'')
    (k5 : ∀ w', Calls Tryd.prog 8 #[.int .u64 n] w' fun e w'' => e = .returned (.string t) ∧ Below w'.heap.size w' w'') :
    Calls Tryd.prog 3 #[.int .u64 n, .string s] w fun e w' => e = .returned (.bool true) ∧ Below w.heap.size w w' := by
  have K1 := Lib.hid k1
  have K2 := Lib.hid k2
  have K3 := Lib.hid k3
  have K4 := Lib.hid k4
  have K5 := Lib.hid k5
  clear k1 k2 k3 k4 k5
  have hB := Below.refl w.heap.size w
  rcases hE with rfl | rfl
  all_goals
    go_enter Tryd.func3, Tryd.ntmps3
    go_wp2_with (first
      | (go_at_call 4; go_must (refine (awake_any _).mono ?_); rintro e w1 ⟨rfl, hb1⟩; replace hB := hB.trans (hb1.mono hB.size))
      | (go_at_call 5; ((with_reducible refine (K1.out _ hB).mono ?_); rintro e w1 ⟨rfl, hb1⟩; replace hB := hB.trans (hb1.mono hB.size)))
      | (go_at_call 6; ((with_reducible refine (K2.out _).mono ?_); rintro e w1 ⟨rfl, hb1⟩; replace hB := hB.trans (hb1.mono hB.size)))
      | (go_at_call 6; ((with_reducible refine (K3.out _ hB).mono ?_); rintro e w1 ⟨rfl, hb1⟩; replace hB := hB.trans (hb1.mono hB.size)))
      | (go_at_call 7; ((with_reducible refine (K4.out _).mono ?_); rintro e w1 ⟨rfl, rfl⟩))
      | (go_at_call 8; ((with_reducible refine (K5.out _).mono ?_); rintro e w1 ⟨rfl, hb1⟩; replace hB := hB.trans (hb1.mono hB.size))))
    go_ret
    exact ⟨rfl, hB⟩

theorem law_yes (n : Nat) (s t : ByteArray) (hs : s.size ≤ 100) (R : Nat) (w : World)
    (k1 : ∀ w', Below w.heap.size w w' → Calls Tryd.prog 5 #[.int .u64 n] w' fun e w'' => e = .returned (.string t) ∧ Below w'.heap.size w' w'')
    (k2 : ∀ w', Calls Tryd.prog 6 #[.string t] w' fun e w'' => e = .returned (.tuple #[.int .u64 n, .int .i64 0]) ∧ Below w'.heap.size w' w'')
    (k3 : ∀ w', Calls Tryd.prog 6 #[.string s] w' fun e w'' => e = .returned (.tuple #[.int .u64 R, .int .i64 0]) ∧ Below w'.heap.size w' w'')
    (k4 : ∀ w', Calls Tryd.prog 7 #[.string s] w' fun e w'' => e = .returned (.tuple #[.int .u64 R, .int .i64 0]) ∧ w' = w'')
    (k5 : ∀ w', Calls Tryd.prog 8 #[.int .u64 n] w' fun e w'' => e = .returned (.string t) ∧ Below w'.heap.size w' w'')
    (k6 : ∀ w', Below w.heap.size w w' → Calls Tryd.prog 5 #[.int .u64 R] w' fun e w'' => e = .returned (.string s) ∧ Below w'.heap.size w' w'') :
    Calls Tryd.prog 3 #[.int .u64 n, .string s] w fun e w' => e = .returned (.bool true) ∧ Below w.heap.size w w' := by
  have K1 := Lib.hid k1
  have K2 := Lib.hid k2
  have K3 := Lib.hid k3
  have K4 := Lib.hid k4
  have K5 := Lib.hid k5
  have K6 := Lib.hid k6
  clear k1 k2 k3 k4 k5 k6
  have hB := Below.refl w.heap.size w
  go_enter Tryd.func3, Tryd.ntmps3
  go_wp2_with (first
    | (go_at_call 4; go_must (refine (awake_any _).mono ?_); rintro e w1 ⟨rfl, hb1⟩; replace hB := hB.trans (hb1.mono hB.size))
    | (go_at_call 5; ((with_reducible refine (K1.out _ hB).mono ?_); rintro e w1 ⟨rfl, hb1⟩; replace hB := hB.trans (hb1.mono hB.size)))
    | (go_at_call 5; ((with_reducible refine (K6.out _ hB).mono ?_); rintro e w1 ⟨rfl, hb1⟩; replace hB := hB.trans (hb1.mono hB.size)))
    | (go_at_call 6; ((with_reducible refine (K2.out _).mono ?_); rintro e w1 ⟨rfl, hb1⟩; replace hB := hB.trans (hb1.mono hB.size)))
    | (go_at_call 6; ((with_reducible refine (K3.out _).mono ?_); rintro e w1 ⟨rfl, hb1⟩; replace hB := hB.trans (hb1.mono hB.size)))
    | (go_at_call 7; ((with_reducible refine (K4.out _).mono ?_); rintro e w1 ⟨rfl, rfl⟩))
    | (go_at_call 8; ((with_reducible refine (K5.out _).mono ?_); rintro e w1 ⟨rfl, hb1⟩; replace hB := hB.trans (hb1.mono hB.size))))
  go_ret
  exact ⟨rfl, hB⟩
end Go.Proofs.YtffjmdgpkaiajaaDoor
