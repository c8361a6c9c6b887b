import Derived.Test.YtlochpnifjmefaaB
import Derived.Test.YtlochpnifjmefaaK
/- Walk of sum.Step. -/
namespace Go.Proofs.Ytlochpnifjmefaa
open Go.RowKit

theorem and1_32 (m : Nat) (h : m < 4294967296) : bits BinOp.and IntKind.u32 (m : Int) 1 = ((m % 2 : Nat) : Int) := by
  have := u32_and_nat m 1 h (by omega)
  rw [nat_mask1] at this
  exact this
theorem xor_poly (m : Nat) (h : m < 4294967296) : bits BinOp.xor IntKind.u32 ((m : Int) / 2) 2197175160 = ((m / 2 ^^^ poly : Nat) : Int) := by
  have := u32_xor_nat (m / 2) 2197175160 (by omega) (by omega)
  unfold poly
  simpa using this
theorem bit_odd (m : Nat) (h : m < 4294967296) (ho : m % 2 = 1) : bits BinOp.and IntKind.u32 (m : Int) 1 = 1 ∧ bits BinOp.xor IntKind.u32 ((m : Int) / 2) 2197175160 = (bit m : Int) := by
  rw [and1_32 m h, xor_poly m h, ho]
  refine ⟨rfl, ?_⟩
  unfold bit; rw [if_pos ho]
theorem bit_even (m : Nat) (h : m < 4294967296) (ho : ¬ m % 2 = 1) : bits BinOp.and IntKind.u32 (m : Int) 1 = 0 ∧ (m : Int) / 2 = (bit m : Int) := by
  rw [and1_32 m h, show m % 2 = 0 by omega]
  refine ⟨rfl, ?_⟩
  unfold bit; rw [if_neg ho]; simp

/-- What holds at each jump back. -/
def StepJ (N c : Nat) (w : World) (a' : Act) (w' : World) : Prop :=
  w = w' ∧ ∃ (m i : Nat) (u2 u3 u4 u6 u7 u8 u9 u10 u11 u12 u13 u14 u15 u16 u17 u18 u19 u20 u21 u22 : Value), a' = { tmps := #[.int .u32 m, .int .u8 c, u2, u3, u4, .int .i64 i, u6, u7, u8, u9, u10, u11, u12, u13, u14, u15, u16, u17, u18, u19, u20, u21, u22], defers := [] } ∧ m < 4294967296 ∧ i ≤ 7 ∧ bitN (8 - i) m = N

set_option maxRecDepth 1000000 in
theorem step_any (n c : Nat) (hn : n < 4294967296) (hc : c < 256) (w : World) :
    Calls Try.prog 66 #[.int .u32 n, .int .u8 c] w fun e w' => e = .returned (.int .u32 (stepN n c)) ∧ w = w' := by
  have hx : bits BinOp.xor IntKind.u32 (n : Int) (c : Int) = ((n ^^^ c : Nat) : Int) := u32_xor_nat n c hn (by omega)
  have hm0 := xor_lt n c hn (by omega)
  obtain ⟨N, hN⟩ : ∃ N, N = stepN n c := ⟨_, rfl⟩
  obtain ⟨m, hm⟩ : ∃ m, m = n ^^^ c := ⟨_, rfl⟩
  have hbn : bitN 8 m = N := by rw [hN, hm]; rfl
  rw [← hm] at hx hm0
  rw [← hN]
  have HM0 := Lib.hid hm0
  have HB := Lib.hid hbn
  clear hN hm hm0 hbn hn
  go_enter Try.func66, Try.ntmps66
  go_wp2
  refine wp_scope_jumps 0 (StepJ N c w) (fun a' _ => (8 - (intOf (a'.tmps.getD 5 undef))).toNat) rfl ?_ ?_
  · by_cases ho : m % 2 = 1
    · obtain ⟨f1, f2⟩ := bit_odd m HM0.out ho
      have HO := Lib.hid ho
      clear ho
      go_wp2
      go_step3
      go_wp2
      go_step3
      exact ⟨rfl, rfl, bit m, 1, _, _, _, _, _, _, _, _, _, _, _, _, _, _, _, _, _, _, _, _, rfl, bit_lt m HM0.out, by omega, HB.out⟩
    · obtain ⟨f1, f2⟩ := bit_even m HM0.out ho
      have HO := Lib.hid ho
      clear ho
      go_wp2
      go_step3
      go_wp2
      go_step3
      exact ⟨rfl, rfl, bit m, 1, _, _, _, _, _, _, _, _, _, _, _, _, _, _, _, _, _, _, _, _, rfl, bit_lt m HM0.out, by omega, HB.out⟩
  · rintro a' w' ⟨rfl, m, i, u2, u3, u4, u6, u7, u8, u9, u10, u11, u12, u13, u14, u15, u16, u17, u18, u19, u20, u21, u22, rfl, hm, hi, hbi⟩
    by_cases ho : m % 2 = 1
    · obtain ⟨f1, f2⟩ := bit_odd m hm ho
      have HM := Lib.hid hm
      have HI := Lib.hid hbi
      clear ho hm hbi
      by_cases h7 : i < 7
      · go_wp2
        go_step3
        refine ⟨rfl, ⟨rfl, bit m, i + 1, _, _, _, _, _, _, _, _, _, _, _, _, _, _, _, _, _, _, _, _, rfl, bit_lt m HM.out, by omega, ?_⟩, ?_⟩
        · rw [← HI.out, show 8 - i = (8 - (i + 1)) + 1 by omega]; rfl
        · simp [intOf]; omega
      · go_wp2
        simp only [Exit.jump]
        go_ret
        refine ⟨?_, rfl⟩
        rw [← HI.out, show 8 - i = 0 + 1 by omega]; rfl
    · obtain ⟨f1, f2⟩ := bit_even m hm ho
      have HM := Lib.hid hm
      have HI := Lib.hid hbi
      clear ho hm hbi
      by_cases h7 : i < 7
      · go_wp2
        go_step3
        refine ⟨rfl, ⟨rfl, bit m, i + 1, _, _, _, _, _, _, _, _, _, _, _, _, _, _, _, _, _, _, _, _, rfl, bit_lt m HM.out, by omega, ?_⟩, ?_⟩
        · rw [← HI.out, show 8 - i = (8 - (i + 1)) + 1 by omega]; rfl
        · simp [intOf]; omega
      · go_wp2
        simp only [Exit.jump]
        go_ret
        refine ⟨?_, rfl⟩
        rw [← HI.out, show 8 - i = 0 + 1 by omega]; rfl
end Go.Proofs.Ytlochpnifjmefaa
