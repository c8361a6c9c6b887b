/- Walk of the law WordOrder. -/
import Derived.Test.YtffjmdgpkaiajaaF
namespace Go.Proofs.Ytffjmdgpkaiajaa
open Go.RowKit

theorem ofNat_lt (x y : Nat) : (UInt8.ofNat x < UInt8.ofNat y) ↔ x % 256 < y % 256 := by
  rw [UInt8.lt_iff_toNat_lt]; simp
theorem ofNat_eq (x y : Nat) : (UInt8.ofNat x = UInt8.ofNat y) ↔ x % 256 = y % 256 := by
  rw [← UInt8.toNat_inj]; simp

theorem be_less (a b : Nat) : ∀ k, Op.bytesLess (be a k) (be b k) = decide (a % 256 ^ k < b % 256 ^ k)
  | 0 => by simp [be, Op.bytesLess, Nat.mod_one]
  | k + 1 => by
    have ih := be_less a b k
    rw [be, be, Op.bytesLess, ih]
    have ha : a % 256 ^ (k + 1) = a % 256 ^ k + 256 ^ k * (a / 256 ^ k % 256) := by rw [Nat.pow_succ, Nat.mod_mul]
    have hb : b % 256 ^ (k + 1) = b % 256 ^ k + 256 ^ k * (b / 256 ^ k % 256) := by rw [Nat.pow_succ, Nat.mod_mul]
    rw [ha, hb]
    have hp : 0 < 256 ^ k := Nat.pow_pos (by omega)
    have ra := Nat.mod_lt a hp
    have rb := Nat.mod_lt b hp
    rw [Bool.eq_iff_iff]
    simp only [Bool.or_eq_true, Bool.and_eq_true, decide_eq_true_iff, beq_iff_eq]
    rw [ofNat_lt, ofNat_eq]
    generalize a / 256 ^ k % 256 = x at *
    generalize b / 256 ^ k % 256 = y at *
    generalize 256 ^ k = P at *
    generalize a % P = r at *
    generalize b % P = q at *
    rcases Nat.lt_trichotomy x y with h | h | h
    · have e : P * x + P ≤ P * y := by rw [← Nat.mul_succ]; exact Nat.mul_le_mul_left _ h
      omega
    · subst h
      omega
    · have e : P * y + P ≤ P * x := by rw [← Nat.mul_succ]; exact Nat.mul_le_mul_left _ h
      omega

theorem sh_mono : ∀ (a b : Nat), a ≤ b → (sh a).length ≤ (sh b).length := by
  intro a
  induction a using Nat.strongRecOn with
  | _ a ih =>
    intro b h
    by_cases ha : 127 < a
    · rw [sh_more a ha, sh_more b (by omega)]
      have := ih (a / 128) (by omega) (b / 128) (by omega)
      simpa using this
    · rw [sh_last a ha]
      have := sh_pos b
      simpa using this

theorem sh_inj : ∀ (a b : Nat), sh a = sh b → a = b := by
  intro a
  induction a using Nat.strongRecOn with
  | _ a ih =>
    intro b h
    by_cases ha : 127 < a <;> by_cases hb : 127 < b
    · rw [sh_more a ha, sh_more b hb] at h
      injection h with h1 h2
      have := ih (a / 128) (by omega) (b / 128) h2
      rw [ofNat_eq] at h1
      omega
    · rw [sh_more a ha, sh_last b hb] at h
      have := sh_pos (a / 128)
      injection h with h1 h2
      rw [h2] at this; simp at this
    · rw [sh_last a ha, sh_more b hb] at h
      have := sh_pos (b / 128)
      injection h with h1 h2
      rw [← h2] at this; simp at this
    · rw [sh_last a ha, sh_last b hb] at h
      injection h with h1 h2
      rw [ofNat_eq] at h1
      omega


theorem wordOrder_walk (a b : Nat) (ha : (a : Int) ≤ top64) (hb : (b : Int) ≤ top64) (w : World) :
    Calls Try.prog 4 #[.int .u64 a, .int .u64 b] w fun e w' => e = .returned (.bool true) ∧ Below w.heap.size w w' := by
  have dS := addI_bd a b (by omega) (by omega)
  have k1 := fun w => add_any a b (by omega) (by omega) ha hb w
  have k2 := fun w => sub_any (addI a b) b (by omega) dS.2 w
  have g : subI (addI a b) b ≤ a := by
    unfold subI addI; split <;> split <;> omega
  generalize addI a b = S at *
  generalize subI S b = T at *
  have k3 := fun w => put_any a 8 (by unfold top64 at ha; omega) w
  have k4 := fun w => put_any b 8 (by unfold top64 at hb; omega) w
  have k5 := fun w => short_any a (by unfold top64 at ha; omega) w
  have k6 := fun w => short_any b (by unfold top64 at hb; omega) w
  have hl : Op.bytesLess (str (be a (clip 8))).toList (str (be b (clip 8))).toList = decide (a < b) := by
    rw [toList_str, toList_str, be_less]
    have e : 256 ^ clip 8 = 18446744073709551616 := by rfl
    unfold top64 at ha hb
    rw [e, Nat.mod_eq_of_lt (by omega), Nat.mod_eq_of_lt (by omega)]
  have heq : ((str (sh a)).toList == (str (sh b)).toList) = ((a : Int) == (b : Int)) := by
    rw [toList_str, toList_str, Bool.eq_iff_iff, beq_iff_eq, beq_iff_eq]
    constructor
    · intro h; rw [sh_inj a b h]
    · intro h; rw [show a = b by omega]
  have K1 := Lib.hid k1
  have K2 := Lib.hid k2
  have K3 := Lib.hid k3
  have K4 := Lib.hid k4
  have K5 := Lib.hid k5
  have K6 := Lib.hid k6
  clear k1 k2 k3 k4 k5 k6 dS ha hb
  have hB := Below.refl w.heap.size w
  by_cases hab : a ≤ b
  · have hlen : (str (sh a)).size ≤ (str (sh b)).size := by
      have := sh_mono a b hab
      simpa [str, ByteArray.size] using this
    go_enter Try.func4, Try.ntmps4
    go_wp2_with (first
      | (go_at_call 11; go_must (refine (awake_any _).mono ?_); rintro e w1 ⟨rfl, hb1⟩; replace hB := hB.trans (hb1.mono hB.size))
      | (go_at_call 16; ((with_reducible refine (K1.out _).mono ?_); rintro e w1 ⟨rfl, rfl⟩))
      | (go_at_call 17; ((with_reducible refine (K2.out _).mono ?_); rintro e w1 ⟨rfl, rfl⟩))
      | (go_at_call 14; ((with_reducible refine (K3.out _).mono ?_); rintro e w2 ⟨rfl, hb2⟩; replace hB := hB.trans (hb2.mono hB.size)))
      | (go_at_call 14; ((with_reducible refine (K4.out _).mono ?_); rintro e w3 ⟨rfl, hb3⟩; replace hB := hB.trans (hb3.mono hB.size)))
      | (go_at_call 18; ((with_reducible refine (K5.out _).mono ?_); rintro e w4 ⟨rfl, hb4⟩; replace hB := hB.trans (hb4.mono hB.size)))
      | (go_at_call 18; ((with_reducible refine (K6.out _).mono ?_); rintro e w5 ⟨rfl, hb5⟩; replace hB := hB.trans (hb5.mono hB.size))))
    go_ret
    exact ⟨rfl, hB⟩
  · go_enter Try.func4, Try.ntmps4
    go_wp2_with (first
      | (go_at_call 11; go_must (refine (awake_any _).mono ?_); rintro e w1 ⟨rfl, hb1⟩; replace hB := hB.trans (hb1.mono hB.size))
      | (go_at_call 16; ((with_reducible refine (K1.out _).mono ?_); rintro e w1 ⟨rfl, rfl⟩))
      | (go_at_call 17; ((with_reducible refine (K2.out _).mono ?_); rintro e w1 ⟨rfl, rfl⟩))
      | (go_at_call 14; ((with_reducible refine (K3.out _).mono ?_); rintro e w2 ⟨rfl, hb2⟩; replace hB := hB.trans (hb2.mono hB.size)))
      | (go_at_call 14; ((with_reducible refine (K4.out _).mono ?_); rintro e w3 ⟨rfl, hb3⟩; replace hB := hB.trans (hb3.mono hB.size)))
      | (go_at_call 18; ((with_reducible refine (K5.out _).mono ?_); rintro e w4 ⟨rfl, hb4⟩; replace hB := hB.trans (hb4.mono hB.size)))
      | (go_at_call 18; ((with_reducible refine (K6.out _).mono ?_); rintro e w5 ⟨rfl, hb5⟩; replace hB := hB.trans (hb5.mono hB.size))))
    go_ret
    exact ⟨rfl, hB⟩

end Go.Proofs.Ytffjmdgpkaiajaa
