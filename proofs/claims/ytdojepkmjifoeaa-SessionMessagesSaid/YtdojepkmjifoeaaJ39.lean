/- Delays, plainly: a doubled base that goes round is what the zeros ahead of it tell.; DERIVED: THE SHELF's CONTRACTS AT THIS DUMP, IN PLAIN WORDS (tools/lay-plain.mjs out of 'YtdojepkmjifoeaaShelf.lean', which tools/lay-shelf.mjs wrote): THE SAME DECLARATIONS UNDER THE SAME NAMES: 'import', 'namespace', 'open', 'def', 'theorem' AND NOTHING ELSE: no command of the shelf's: FOR A HAND-IN. Each laying: the table of numbers ('.._ren') and one theorem, a field a fact of the dump's own or the kernel's comparison; each contract: ONE APPLICATION. -/
import Derived.Test.YtdojepkmjifoeaaJ00
import Derived.Lib.BitFns
import Derived.Shelf.Small.Bits
import Derived.Shelf.Strconv.Itoa0
import Derived.Test.YtdojepkmjifoeaaProg
set_option linter.unusedVariables false
set_option linter.unusedSimpArgs false
namespace Go.Proofs.Ytdojepkmjifoeaa.Bk
open Go.RowKit

/-- The delay of a base, a cap and a number of tries. -/
def dl (b c t : Nat) : Nat := min (b * 2 ^ t) c

theorem aux_two : ∀ (f x : Nat), x < 2 ^ f → x < 2 ^ Lib.bitLenAux f x ∧ (x ≠ 0 → 2 ^ Lib.bitLenAux f x ≤ 2 * x)
  | 0, x, h => by
    have : x = 0 := by simpa using h
    subst this
    simp [Lib.bitLenAux]
  | f + 1, x, h => by
    simp only [Lib.bitLenAux]
    by_cases hx : x = 0
    · rw [if_pos hx]; subst hx; simp
    · rw [if_neg hx]
      have h2 : x / 2 < 2 ^ f := by rw [Nat.pow_succ] at h; omega
      obtain ⟨i1, i2⟩ := aux_two f (x / 2) h2
      rw [Nat.add_comm 1, Nat.pow_succ]
      refine ⟨by omega, fun _ => ?_⟩
      by_cases h0 : x / 2 = 0
      · have e : Lib.bitLenAux f (x / 2) = 0 := by
          rw [h0]
          cases f with
          | zero => rfl
          | succ f => simp [Lib.bitLenAux]
        rw [e]; omega
      · have := i2 h0
        omega
theorem len_two (x : Nat) (h : x < 18446744073709551616) : x < 2 ^ Lib.bitLen x ∧ (x ≠ 0 → 2 ^ Lib.bitLen x ≤ 2 * x) := aux_two 64 x h
theorem len_le (x : Nat) (h : x < 18446744073709551616) : Lib.bitLen x ≤ 64 := Lib.bitLen_le x 64 (Nat.le_refl _) h
/-- More tries than zeros ahead: the cap. -/
theorem dl_great {b c t : Nat} (hb : b < 18446744073709551616) (h0 : b ≠ 0) (hc : c < 18446744073709551616) (ht : 64 < t + Lib.bitLen b) : dl b c t = c := by
  have h1 := (len_two b hb).2 h0
  have h2 : 2 ^ 65 ≤ 2 ^ (Lib.bitLen b + t) := Nat.pow_le_pow_right (by omega) (by omega)
  rw [Nat.pow_add] at h2
  have h3 : 2 ^ Lib.bitLen b * 2 ^ t ≤ 2 * b * 2 ^ t := Nat.mul_le_mul_right _ h1
  rw [Nat.mul_assoc] at h3
  unfold dl
  omega
/-- No more: it does not go round. -/
theorem dl_small {b t : Nat} (hb : b < 18446744073709551616) (ht : b = 0 ∨ t + Lib.bitLen b ≤ 64) : b * 2 ^ t < 18446744073709551616 := by
  rcases ht with rfl | ht
  · simp
  · have h1 := (len_two b hb).1
    have h2 : 2 ^ (Lib.bitLen b + t) ≤ 2 ^ 64 := Nat.pow_le_pow_right (by omega) (by omega)
    rw [Nat.pow_add] at h2
    have h3 : b * 2 ^ t < 2 ^ Lib.bitLen b * 2 ^ t := Nat.mul_lt_mul_of_pos_right h1 (Nat.two_pow_pos t)
    omega
theorem dl_cap (b c t : Nat) : dl b c t ≤ c := Nat.min_le_right _ _
theorem dl_mono (b c t u : Nat) (h : t ≤ u) : dl b c t ≤ dl b c u := by
  unfold dl
  have := Nat.mul_le_mul_left b (Nat.pow_le_pow_right (show 0 < 2 by omega) h)
  omega
theorem dl_zero (b c : Nat) (h : b ≤ c) : dl b c 0 = b := by unfold dl; omega
end Go.Proofs.Ytdojepkmjifoeaa.Bk

namespace Go.Proofs
open Go.Shelf
def Try.lays134_ren : Go.Shelf.Ren := ⟨fun | 134 => 56 | 129 => 76 | n => n, fun | 53 => 22 | 3 => 3 | 4 => 4 | 46 => 132 | 5 => 5 | 9 => 9 | n => n, fun | n => n⟩
theorem Try.lays134 : Go.Proofs.Lays.n134 Try.prog Try.lays134_ren := {
  mixed := by kernel_rfl
  f129 := Try.func76.trans (congrArg some (by kernel_rfl))
  f134 := Try.func56.trans (congrArg some (by kernel_rfl))
  t3 := Try.underlying3
  a3 := Try.isAgg3
  z3 := Try.sizeOf3
  v3 := Try.zeroValue3
  t4 := Try.underlying4
  a4 := Try.isAgg4
  z4 := Try.sizeOf4
  v4 := Try.zeroValue4
  t5 := Try.underlying5
  a5 := Try.isAgg5
  z5 := Try.sizeOf5
  v5 := Try.zeroValue5
  t9 := Try.underlying9
  a9 := Try.isAgg9
  z9 := Try.sizeOf9
  v9 := Try.zeroValue9
  t46 := Try.underlying132
  a46 := Try.isAgg132
  z46 := Try.sizeOf132
  v46 := Try.zeroValue132
  t53 := Try.underlying22
  a53 := Try.isAgg22
  z53 := Try.sizeOf22
  v53 := Try.zeroValue22 }
/-- bits.LeadingZeros64: "LeadingZeros64 returns the number of leading zero bits in x; the result is 64 for x == 0.": IT RETURNS '64 - Lib.bitLen x'; the world is as it was. ITS CALLEE bits.Len64 IS MET BY ITS OWN CONTRACT OFF THE SHELF (lay that first): entered in place it sends the kernel out of memory. (LAID: no walk: one application.) -/
theorem Try.bits_LeadingZeros64 (x : Int) (w : World) (h0 : 0 ≤ x) (h1 : x ≤ 18446744073709551615) :
    Calls Try.prog 56 #[.int .u64 x] w fun e w' => e = .returned (.int .i64 (64 - (Lib.bitLen x.toNat : Int))) ∧ w' = w := Any.bits_LeadingZeros64 Try.lays134 x w h0 h1
end Go.Proofs
