/- Walks of digest.high, digest.root, digest.divided, digest.primes. -/
import Derived.Test.YtfakkbjnapelfaaDA
import Derived.Test.YtfakkbjnapelfaaWVG
import Derived.Test.YtfakkbjnapelfaaShelfD
namespace Go.Proofs.Ytfakkbjnapelfaa.Dg
open Go.RowKit

theorem hw_step (u r o : Nat) : IntKind.u64.wrap (IntKind.u64.wrap ((u : Int) * (r : Int)) + (o : Int)) = (((u * r + o) % 18446744073709551616 : Nat) : Int) := by
  rw [IntKind.wrap_u64, IntKind.wrap_u64]
  have : (u : Int) * (r : Int) = ((u * r : Nat) : Int) := by simp
  rw [this]
  omega
theorem high_any (r d : Nat) (hr : r < 18446744073709551616) (hd : d ≤ 3) (w : World) :
    Calls Try.prog 62 #[.int .u64 (r : Int), .int .i64 (d : Int)] w fun e w' => e = .returned (.int .u64 (high r d : Nat)) ∧ w = w' := by
  obtain ⟨H, hH⟩ : ∃ H, high r d = H := ⟨_, rfl⟩
  rw [hH]
  have HH := Lib.hid hH
  have HR := Lib.hid hr
  clear hH hr
  go_enter Try.func62, Try.ntmps62
  go_wp2
  go_loop [5, 6, 10] (fun x y i => ∃ (k u l : Nat), k ≤ d ∧ i = .int .i64 k ∧ x = .int .u64 u ∧ y = .int .u64 l ∧ l < 18446744073709551616 ∧ Hid (hiU (d - k) r u l = H)) (fun _ _ i => d - (intOf i).toNat)
  case atStart => exact ⟨0, 0, 1, by omega, rfl, rfl, rfl, by omega, HH⟩
  case round =>
    obtain ⟨k, u, l, hk, rfl, rfl, rfl, hl, hH⟩ := hrel
    by_cases hlt : k < d
    · have KM := Lib.hid (Try.bits_Mul64 l r hl HR.out)
      have hs := hw_step u r (l * r / 18446744073709551616)
      have hH2 : Hid (hiU (d - (k + 1)) r ((u * r + l * r / 18446744073709551616) % 18446744073709551616) (l * r % 18446744073709551616) = H) := Lib.hid (by
        have := hH.out
        rw [show d - k = (d - (k + 1)) + 1 by omega] at this
        exact this)
      have hl2 : l * r % 18446744073709551616 < 18446744073709551616 := Nat.mod_lt _ (by omega)
      clear hl hH
      generalize l * r % 18446744073709551616 = l2 at *
      generalize l * r / 18446744073709551616 = o at *
      generalize (u * r + o) % 18446744073709551616 = u2 at *
      go_wp2_with ((go_at_call 56; ((with_reducible refine (KM.out _).mono ?_); rintro e w1 ⟨rfl, rfl⟩)))
      go_round
      case rel => exact ⟨k + 1, u2, l2, by omega, by go_num, by rw [← hs], rfl, hl2, hH2⟩
      case measure => simp [intOf]; omega
    · have e : d - k = 0 := by omega
      have h := hH.out
      rw [e] at h
      have HE := Lib.hid h
      clear h hH e
      go_wp2
      go_ret
      rw [← HE.out]
      exact ⟨rfl, rfl⟩

/-- What holds at each jump back. -/
def RootJ (p D : Int) (d most R : Nat) (w : World) (a' : Act) (w' : World) : Prop :=
  w = w' ∧ ∃ (k r : Nat) (u2 u3 u4 u8 u9 u10 u11 u12 u13 u14 u15 u16 u17 u18 u19 u20 u21 u22 u23 u24 u25 u26 u27 u28 : Value), a' = { tmps := #[.int .u64 p, .int .i64 D, u2, u3, u4, .int .u64 most, .int .u64 r, .int .u64 (2 ^ k : Nat), u8, u9, u10, u11, u12, u13, u14, u15, u16, u17, u18, u19, u20, u21, u22, u23, u24, u25, u26, u27, u28], defers := [] } ∧ k ≤ 33 ∧ r < 34359738368 ∧ rootL k most d r = R
theorem or_nat (r k : Nat) (hr : r < 34359738368) (hk : k ≤ 34) : bits BinOp.or IntKind.u64 (r : Int) ((2 ^ k : Nat) : Int) = ((r ||| 2 ^ k : Nat) : Int) ∧ (r ||| 2 ^ k) < 34359738368 := by
  have h2 : 2 ^ k ≤ 2 ^ 34 := Nat.pow_le_pow_right (by omega) hk
  have h3 : (2 : Nat) ^ 34 = 17179869184 := rfl
  exact ⟨u64_or_nat r (2 ^ k) (by omega) (by omega), Nat.or_lt_two_pow (n := 35) hr (show 2 ^ k < 2 ^ 35 by have : (2 : Nat) ^ 35 = 34359738368 := rfl; omega)⟩

theorem rootL_succ (k most d r : Nat) : rootL (k + 1) most d r = rootL k most d (if high (r ||| 2 ^ (k + 1)) d < most then r ||| 2 ^ (k + 1) else r) := rfl
theorem rootL_zero (most d r : Nat) : rootL 0 most d r = if high (r ||| 2 ^ 0) d < most then r ||| 2 ^ 0 else r := rfl
theorem half_pow (k : Nat) : ((2 ^ (k + 1) : Nat) : Int) / 2 = ((2 ^ k : Nat) : Int) := by rw [Nat.pow_succ]; omega

set_option maxRecDepth 1000000 in
theorem root_core (p d most R : Nat) (D : Int) (hD : D = (d : Int)) (hd : (d = 2 ∧ IntKind.u64.wrap (p : Int) = (most : Int)) ∨ (d = 3 ∧ IntKind.u64.wrap ((p : Int) * 4294967296) = (most : Int))) (hR : Hid (rootL (33 + 1) most d 0 = R)) (w : World) :
    Calls Try.prog 49 #[.int .u64 (p : Int), .int .i64 D] w fun e w' => e = .returned (.int .u32 ((R % 4294967296 : Nat) : Int)) ∧ w = w' := by
  have hd3 : d ≤ 3 := by omega
  have KALL : Hid (∀ r : Nat, r < 34359738368 → ∀ w, Calls Try.prog 62 #[.int .u64 (r : Int), .int .i64 D] w fun e w' => e = .returned (.int .u64 (high r d : Nat)) ∧ w = w') := Lib.hid (fun r hr w => by rw [hD]; exact high_any r d (by omega) hd3 w)
  have K0 : Hid (∀ w, Calls Try.prog 62 #[.int .u64 17179869184, .int .i64 D] w fun e w' => e = .returned (.int .u64 (high 17179869184 d : Nat)) ∧ w = w') := by
    have h := KALL.out 17179869184 (by omega)
    generalize high 17179869184 d = x at *
    exact Lib.hid h
  have hor0 : bits BinOp.or IntKind.u64 0 17179869184 = 17179869184 := by decide +kernel
  have hdd : (D = 2 ∧ IntKind.u64.wrap (p : Int) = (most : Int)) ∨ (D = 3 ∧ IntKind.u64.wrap ((p : Int) * 4294967296) = (most : Int)) := by
    rcases hd with ⟨rfl, h⟩ | ⟨rfl, h⟩
    · exact Or.inl ⟨hD, h⟩
    · exact Or.inr ⟨hD, h⟩
  clear hd hd3 hD
  rcases hdd with ⟨rfl, hm⟩ | ⟨rfl, hm⟩
  · go_enter Try.func49, Try.ntmps49
    go_wp2
    refine wp_scope_jumps 0 (RootJ p 2 d most R w) (fun a' _ => (intOf (a'.tmps.getD 7 undef)).toNat) rfl ?_ ?_
    · by_cases h : high 17179869184 d < most
      · have HJ : Hid (rootL 33 most d 17179869184 = R) := Lib.hid (by
          have := hR.out
          rw [rootL_succ, show (0 : Nat) ||| 2 ^ (33 + 1) = 17179869184 from rfl, if_pos h] at this
          exact this)
        clear hR
        generalize high 17179869184 d = H at *
        go_wp2_with ((go_at_call 62; ((with_reducible refine (K0.out _).mono ?_); rintro e w1 ⟨rfl, rfl⟩)))
        go_step3
        go_wp2_with ((go_at_call 62; ((with_reducible refine (K0.out _).mono ?_); rintro e w1 ⟨rfl, rfl⟩)))
        go_step3
        exact ⟨rfl, rfl, 33, 17179869184, _, _, _, _, _, _, _, _, _, _, _, _, _, _, _, _, _, _, _, _, _, _, _, _, rfl, by omega, by omega, HJ.out⟩
      · have HJ : Hid (rootL 33 most d 0 = R) := Lib.hid (by
          have := hR.out
          rw [rootL_succ, show (0 : Nat) ||| 2 ^ (33 + 1) = 17179869184 from rfl, if_neg h] at this
          exact this)
        clear hR
        generalize high 17179869184 d = H at *
        go_wp2_with ((go_at_call 62; ((with_reducible refine (K0.out _).mono ?_); rintro e w1 ⟨rfl, rfl⟩)))
        go_step3
        go_wp2_with ((go_at_call 62; ((with_reducible refine (K0.out _).mono ?_); rintro e w1 ⟨rfl, rfl⟩)))
        go_step3
        exact ⟨rfl, rfl, 33, 0, _, _, _, _, _, _, _, _, _, _, _, _, _, _, _, _, _, _, _, _, _, _, _, _, rfl, by omega, by omega, HJ.out⟩
    · rintro a' w' ⟨rfl, k, r, u2, u3, u4, u8, u9, u10, u11, u12, u13, u14, u15, u16, u17, u18, u19, u20, u21, u22, u23, u24, u25, u26, u27, u28, rfl, hk, hr, hR⟩
      clear K0 hor0 hm
      obtain ⟨ho, hq⟩ := or_nat r k hr (by omega)
      have KH := Lib.hid (KALL.out (r ||| 2 ^ k) hq)
      obtain rfl | ⟨j, rfl⟩ : k = 0 ∨ ∃ j, k = j + 1 := by cases k with
        | zero => exact Or.inl rfl
        | succ j => exact Or.inr ⟨j, rfl⟩
      · rw [rootL_zero] at hR
        have hh : ((2 ^ 0 : Nat) : Int) / 2 = 0 := rfl
        by_cases h : high (r ||| 2 ^ 0) d < most
        · rw [if_pos h] at hR
          have HR := Lib.hid hR
          clear hR
          generalize high (r ||| 2 ^ 0) d = H at *
          generalize r ||| 2 ^ 0 = q at *
          generalize (2 : Nat) ^ 0 = X at *
          go_wp2_with ((go_at_call 62; ((with_reducible refine (KH.out _).mono ?_); rintro e w1 ⟨rfl, rfl⟩)))
          simp only [Exit.jump]
          go_ret
          rw [← HR.out]
          exact ⟨rfl, rfl⟩
        · rw [if_neg h] at hR
          have HR := Lib.hid hR
          clear hR
          generalize high (r ||| 2 ^ 0) d = H at *
          generalize r ||| 2 ^ 0 = q at *
          generalize (2 : Nat) ^ 0 = X at *
          go_wp2_with ((go_at_call 62; ((with_reducible refine (KH.out _).mono ?_); rintro e w1 ⟨rfl, rfl⟩)))
          simp only [Exit.jump]
          go_ret
          rw [← HR.out]
          exact ⟨rfl, rfl⟩
      · rw [rootL_succ] at hR
        have hh := half_pow j
        have hpos : 0 < 2 ^ j := Nat.two_pow_pos j
        by_cases h : high (r ||| 2 ^ (j + 1)) d < most
        · rw [if_pos h] at hR
          have HR := Lib.hid hR
          clear hR
          generalize high (r ||| 2 ^ (j + 1)) d = H at *
          generalize r ||| 2 ^ (j + 1) = q at *
          have hlt : 2 ^ j < 2 ^ (j + 1) := Nat.pow_lt_pow_right (by omega) (by omega)
          have HLT := Lib.hid hlt
          clear hlt
          generalize hX : (2 : Nat) ^ (j + 1) = X at *
          generalize hY : (2 : Nat) ^ j = Y at *
          have HY := Lib.hid hY
          clear hX hY
          go_wp2_with ((go_at_call 62; ((with_reducible refine (KH.out _).mono ?_); rintro e w1 ⟨rfl, rfl⟩)))
          go_step3
          refine ⟨rfl, ⟨rfl, j, q, _, _, _, _, _, _, _, _, _, _, _, _, _, _, _, _, _, _, _, _, _, _, _, _, by rw [HY.out], by omega, hq, HR.out⟩, ?_⟩
          have := HLT.out
          simp [intOf]; omega
        · rw [if_neg h] at hR
          have HR := Lib.hid hR
          clear hR
          generalize high (r ||| 2 ^ (j + 1)) d = H at *
          generalize r ||| 2 ^ (j + 1) = q at *
          have hlt : 2 ^ j < 2 ^ (j + 1) := Nat.pow_lt_pow_right (by omega) (by omega)
          have HLT := Lib.hid hlt
          clear hlt
          generalize hX : (2 : Nat) ^ (j + 1) = X at *
          generalize hY : (2 : Nat) ^ j = Y at *
          have HY := Lib.hid hY
          clear hX hY
          go_wp2_with ((go_at_call 62; ((with_reducible refine (KH.out _).mono ?_); rintro e w1 ⟨rfl, rfl⟩)))
          go_step3
          refine ⟨rfl, ⟨rfl, j, r, _, _, _, _, _, _, _, _, _, _, _, _, _, _, _, _, _, _, _, _, _, _, _, _, by rw [HY.out], by omega, hr, HR.out⟩, ?_⟩
          have := HLT.out
          simp [intOf]; omega
  · go_enter Try.func49, Try.ntmps49
    go_wp2
    refine wp_scope_jumps 0 (RootJ p 3 d most R w) (fun a' _ => (intOf (a'.tmps.getD 7 undef)).toNat) rfl ?_ ?_
    · by_cases h : high 17179869184 d < most
      · have HJ : Hid (rootL 33 most d 17179869184 = R) := Lib.hid (by
          have := hR.out
          rw [rootL_succ, show (0 : Nat) ||| 2 ^ (33 + 1) = 17179869184 from rfl, if_pos h] at this
          exact this)
        clear hR
        generalize high 17179869184 d = H at *
        go_wp2_with ((go_at_call 62; ((with_reducible refine (K0.out _).mono ?_); rintro e w1 ⟨rfl, rfl⟩)))
        go_step3
        go_wp2_with ((go_at_call 62; ((with_reducible refine (K0.out _).mono ?_); rintro e w1 ⟨rfl, rfl⟩)))
        go_step3
        exact ⟨rfl, rfl, 33, 17179869184, _, _, _, _, _, _, _, _, _, _, _, _, _, _, _, _, _, _, _, _, _, _, _, _, rfl, by omega, by omega, HJ.out⟩
      · have HJ : Hid (rootL 33 most d 0 = R) := Lib.hid (by
          have := hR.out
          rw [rootL_succ, show (0 : Nat) ||| 2 ^ (33 + 1) = 17179869184 from rfl, if_neg h] at this
          exact this)
        clear hR
        generalize high 17179869184 d = H at *
        go_wp2_with ((go_at_call 62; ((with_reducible refine (K0.out _).mono ?_); rintro e w1 ⟨rfl, rfl⟩)))
        go_step3
        go_wp2_with ((go_at_call 62; ((with_reducible refine (K0.out _).mono ?_); rintro e w1 ⟨rfl, rfl⟩)))
        go_step3
        exact ⟨rfl, rfl, 33, 0, _, _, _, _, _, _, _, _, _, _, _, _, _, _, _, _, _, _, _, _, _, _, _, _, rfl, by omega, by omega, HJ.out⟩
    · rintro a' w' ⟨rfl, k, r, u2, u3, u4, u8, u9, u10, u11, u12, u13, u14, u15, u16, u17, u18, u19, u20, u21, u22, u23, u24, u25, u26, u27, u28, rfl, hk, hr, hR⟩
      clear K0 hor0 hm
      obtain ⟨ho, hq⟩ := or_nat r k hr (by omega)
      have KH := Lib.hid (KALL.out (r ||| 2 ^ k) hq)
      obtain rfl | ⟨j, rfl⟩ : k = 0 ∨ ∃ j, k = j + 1 := by cases k with
        | zero => exact Or.inl rfl
        | succ j => exact Or.inr ⟨j, rfl⟩
      · rw [rootL_zero] at hR
        have hh : ((2 ^ 0 : Nat) : Int) / 2 = 0 := rfl
        by_cases h : high (r ||| 2 ^ 0) d < most
        · rw [if_pos h] at hR
          have HR := Lib.hid hR
          clear hR
          generalize high (r ||| 2 ^ 0) d = H at *
          generalize r ||| 2 ^ 0 = q at *
          generalize (2 : Nat) ^ 0 = X at *
          go_wp2_with ((go_at_call 62; ((with_reducible refine (KH.out _).mono ?_); rintro e w1 ⟨rfl, rfl⟩)))
          simp only [Exit.jump]
          go_ret
          rw [← HR.out]
          exact ⟨rfl, rfl⟩
        · rw [if_neg h] at hR
          have HR := Lib.hid hR
          clear hR
          generalize high (r ||| 2 ^ 0) d = H at *
          generalize r ||| 2 ^ 0 = q at *
          generalize (2 : Nat) ^ 0 = X at *
          go_wp2_with ((go_at_call 62; ((with_reducible refine (KH.out _).mono ?_); rintro e w1 ⟨rfl, rfl⟩)))
          simp only [Exit.jump]
          go_ret
          rw [← HR.out]
          exact ⟨rfl, rfl⟩
      · rw [rootL_succ] at hR
        have hh := half_pow j
        have hpos : 0 < 2 ^ j := Nat.two_pow_pos j
        by_cases h : high (r ||| 2 ^ (j + 1)) d < most
        · rw [if_pos h] at hR
          have HR := Lib.hid hR
          clear hR
          generalize high (r ||| 2 ^ (j + 1)) d = H at *
          generalize r ||| 2 ^ (j + 1) = q at *
          have hlt : 2 ^ j < 2 ^ (j + 1) := Nat.pow_lt_pow_right (by omega) (by omega)
          have HLT := Lib.hid hlt
          clear hlt
          generalize hX : (2 : Nat) ^ (j + 1) = X at *
          generalize hY : (2 : Nat) ^ j = Y at *
          have HY := Lib.hid hY
          clear hX hY
          go_wp2_with ((go_at_call 62; ((with_reducible refine (KH.out _).mono ?_); rintro e w1 ⟨rfl, rfl⟩)))
          go_step3
          refine ⟨rfl, ⟨rfl, j, q, _, _, _, _, _, _, _, _, _, _, _, _, _, _, _, _, _, _, _, _, _, _, _, _, by rw [HY.out], by omega, hq, HR.out⟩, ?_⟩
          have := HLT.out
          simp [intOf]; omega
        · rw [if_neg h] at hR
          have HR := Lib.hid hR
          clear hR
          generalize high (r ||| 2 ^ (j + 1)) d = H at *
          generalize r ||| 2 ^ (j + 1) = q at *
          have hlt : 2 ^ j < 2 ^ (j + 1) := Nat.pow_lt_pow_right (by omega) (by omega)
          have HLT := Lib.hid hlt
          clear hlt
          generalize hX : (2 : Nat) ^ (j + 1) = X at *
          generalize hY : (2 : Nat) ^ j = Y at *
          have HY := Lib.hid hY
          clear hX hY
          go_wp2_with ((go_at_call 62; ((with_reducible refine (KH.out _).mono ?_); rintro e w1 ⟨rfl, rfl⟩)))
          go_step3
          refine ⟨rfl, ⟨rfl, j, r, _, _, _, _, _, _, _, _, _, _, _, _, _, _, _, _, _, _, _, _, _, _, _, _, by rw [HY.out], by omega, hr, HR.out⟩, ?_⟩
          have := HLT.out
          simp [intOf]; omega
end Go.Proofs.Ytfakkbjnapelfaa.Dg
