/- Walk of the law WordSums. -/
import Derived.Test.YtffjmdgpkaiajaaA
import Derived.Test.YtffjmdgpkaiajaaE
namespace Go.Proofs.Ytffjmdgpkaiajaa
open Go.RowKit

theorem wf64 {a : Int} (h : (Lit.int .u64 a).wf = true) : 0 ≤ a ∧ a ≤ top64 := by
  simp [Lit.wf, IntKind.min, IntKind.max, IntKind.signed, IntKind.bits] at h
  unfold top64; omega
theorem addI_bd (a b : Int) (ha : 0 ≤ a) (hb : 0 ≤ b) : 0 ≤ addI a b ∧ addI a b ≤ top64 := by
  unfold addI top64; split <;> omega
theorem addI_comm (a b : Int) : addI b a = addI a b := by
  unfold addI; rw [Int.add_comm]
theorem addI_assoc (a b c : Int) (ha : 0 ≤ a) (hc : 0 ≤ c) : addI a (addI b c) = addI (addI a b) c := by
  unfold addI top64
  split <;> split <;> split <;> split <;> omega
theorem addI_ge (a b : Int) (ha : 0 ≤ a) (hb : 0 ≤ b) (ha' : a ≤ top64) (hb' : b ≤ top64) : a ≤ addI a b ∧ b ≤ addI a b := by
  unfold addI; split <;> omega
theorem wrap_le (a b : Int) (ha : 0 ≤ a) (hb : 0 ≤ b) (h : a + b ≤ top64) : IntKind.u64.wrap (a + b) = a + b := by
  unfold top64 at h; exact IntWalk.u64_in _ ⟨by omega, by omega⟩
theorem wrap_gt (a b : Int) (ha' : a ≤ top64) (hb' : b ≤ top64) (h : ¬ a + b ≤ top64) : IntKind.u64.wrap (a + b) < a := by
  unfold top64 at *
  have : IntKind.u64.wrap (a + b) = a + b - 18446744073709551616 := by
    rw [IntKind.wrap_u64]; omega
  rw [this]; omega

theorem wordSums_walk (a b c : Int) (ha0 : 0 ≤ a) (hb0 : 0 ≤ b) (hc0 : 0 ≤ c) (ha : a ≤ top64) (hb : b ≤ top64) (hc : c ≤ top64) (w : World) :
    Calls Try.prog 5 #[.int .u64 a, .int .u64 b, .int .u64 c] w fun e w' => e = .returned (.bool true) ∧ Below w.heap.size w w' := by
  have dS := addI_bd a b ha0 hb0
  have dU := addI_bd b c hb0 hc0
  have k1 := fun w => add_any a b ha0 hb0 ha hb w
  have k2 := fun w => add_any b a hb0 ha0 hb ha w
  have k3 := fun w => add_any (addI a b) c dS.1 hc0 dS.2 hc w
  have k4 := fun w => add_any b c hb0 hc0 hb hc w
  have k5 := fun w => add_any a (addI b c) ha0 dU.1 ha dU.2 w
  have k6 := fun w => sub_any (addI a b) b hb0 dS.2 w
  have k7 := fun w => sub_any a a ha0 ha w
  have k8 := fun w => sub_any a 0 (Int.le_refl 0) ha w
  have g := addI_ge a b ha0 hb0 ha hb
  have e6 : a + b ≤ top64 → subI (addI a b) b = a := by
    intro h
    unfold subI addI
    rw [if_pos h, if_neg (by omega)]; omega
  rw [show subI a a = 0 by unfold subI; rw [if_neg (by omega)]; omega] at k7
  rw [show subI a 0 = a by unfold subI; rw [if_neg (by omega)]; omega] at k8
  rw [addI_comm a b] at k2
  rw [addI_assoc a b c ha0 hc0] at k5
  generalize addI a b = S at *
  generalize addI b c = U at *
  generalize addI S c = T at *
  have K1 := Lib.hid k1
  have K2 := Lib.hid k2
  have K3 := Lib.hid k3
  have K4 := Lib.hid k4
  have K5 := Lib.hid k5
  have K7 := Lib.hid k7
  have K8 := Lib.hid k8
  clear k1 k2 k3 k4 k5 k7 k8 dS dU
  obtain ⟨g1, g2⟩ := g
  by_cases h : a + b ≤ top64
  · have hw := wrap_le a b ha0 hb0 h
    rw [e6 h] at k6
    have K6 := Lib.hid k6
    have hlt : ¬ a + b < a := by omega
    clear k6 e6 ha hb hc h
    go_enter Try.func5, Try.ntmps5
    go_wp2_with (first
      | (go_at_call 11; go_must (refine (awake_any _).mono ?_); rintro e w1 ⟨rfl, hb1⟩)
      | (go_at_call 16; ((with_reducible refine (K1.out _).mono ?_); rintro e w1 ⟨rfl, rfl⟩))
      | (go_at_call 16; ((with_reducible refine (K2.out _).mono ?_); rintro e w1 ⟨rfl, rfl⟩))
      | (go_at_call 16; ((with_reducible refine (K3.out _).mono ?_); rintro e w1 ⟨rfl, rfl⟩))
      | (go_at_call 16; ((with_reducible refine (K4.out _).mono ?_); rintro e w1 ⟨rfl, rfl⟩))
      | (go_at_call 16; ((with_reducible refine (K5.out _).mono ?_); rintro e w1 ⟨rfl, rfl⟩))
      | (go_at_call 17; ((with_reducible refine (K6.out _).mono ?_); rintro e w1 ⟨rfl, rfl⟩))
      | (go_at_call 17; ((with_reducible refine (K7.out _).mono ?_); rintro e w1 ⟨rfl, rfl⟩))
      | (go_at_call 17; ((with_reducible refine (K8.out _).mono ?_); rintro e w1 ⟨rfl, rfl⟩)))
    go_ret
    exact ⟨rfl, hb1⟩
  · have hw := wrap_gt a b ha hb h
    clear k6 e6 ha hb hc h
    go_enter Try.func5, Try.ntmps5
    go_wp2_with (first
      | (go_at_call 11; go_must (refine (awake_any _).mono ?_); rintro e w1 ⟨rfl, hb1⟩)
      | (go_at_call 16; ((with_reducible refine (K1.out _).mono ?_); rintro e w1 ⟨rfl, rfl⟩))
      | (go_at_call 16; ((with_reducible refine (K2.out _).mono ?_); rintro e w1 ⟨rfl, rfl⟩))
      | (go_at_call 16; ((with_reducible refine (K3.out _).mono ?_); rintro e w1 ⟨rfl, rfl⟩))
      | (go_at_call 16; ((with_reducible refine (K4.out _).mono ?_); rintro e w1 ⟨rfl, rfl⟩))
      | (go_at_call 16; ((with_reducible refine (K5.out _).mono ?_); rintro e w1 ⟨rfl, rfl⟩))
      | (go_at_call 17; ((with_reducible refine (K7.out _).mono ?_); rintro e w1 ⟨rfl, rfl⟩))
      | (go_at_call 17; ((with_reducible refine (K8.out _).mono ?_); rintro e w1 ⟨rfl, rfl⟩)))
    go_ret
    exact ⟨rfl, hb1⟩
end Go.Proofs.Ytffjmdgpkaiajaa
