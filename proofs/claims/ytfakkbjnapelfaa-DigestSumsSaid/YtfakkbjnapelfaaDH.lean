/- Rotations. -/
import Derived.Test.YtfakkbjnapelfaaDG
import Derived.Test.YtfakkbjnapelfaaDF
namespace Go.Proofs.Ytfakkbjnapelfaa.Dg
open Go.RowKit

/-- Turned right, of words of 32 bits. -/
def ror (x n : Nat) : Nat := x / 2 ^ n ||| (x * 2 ^ (32 - n)) % 4294967296
theorem ret_u32 {a b : Int} (h : a = b) : Ending.returned (.int .u32 a) = .returned (.int .u32 b) := by rw [h]
theorem ror_or (x n : Nat) (hx : x < 4294967296) : bits BinOp.or IntKind.u32 ((x / 2 ^ n : Nat) : Int) ((x * 2 ^ (32 - n) % 4294967296 : Nat) : Int) = (ror x n : Nat) ∧
    bits BinOp.or IntKind.u32 ((x * 2 ^ (32 - n) % 4294967296 : Nat) : Int) ((x / 2 ^ n : Nat) : Int) = (ror x n : Nat) ∧ ror x n < 4294967296 := by
  have h1 : x / 2 ^ n < 4294967296 := Nat.lt_of_le_of_lt (Nat.div_le_self _ _) hx
  have h2 : x * 2 ^ (32 - n) % 4294967296 < 4294967296 := Nat.mod_lt _ (by omega)
  unfold ror
  refine ⟨u32_or_nat _ _ h1 h2, ?_, Nat.or_lt_two_pow (n := 32) h1 h2⟩
  rw [u32_or_nat _ _ h2 h1, Nat.or_comm]

theorem or_right (x n m : Nat) (hm : 32 - n = m) (hx : x < 4294967296) : bits BinOp.or IntKind.u32 ((x : Int) / 2 ^ n) ((x : Int) * 2 ^ m % 4294967296) = (ror x n : Nat) := by
  subst hm
  rw [← (ror_or x n hx).1]; simp
theorem or_left (x n m : Nat) (hm : 32 - n = m) (hx : x < 4294967296) : bits BinOp.or IntKind.u32 ((x : Int) * 2 ^ m % 4294967296) ((x : Int) / 2 ^ n) = (ror x n : Nat) := by
  subst hm
  rw [← (ror_or x n hx).2.1]; simp

theorem rotr_any (x n : Nat) (hx : x < 4294967296) (h1 : 1 ≤ n) (h2 : n ≤ 31) (w : World) :
    Calls Try.prog 47 #[.int .u32 (x : Int), .int .i64 (n : Int)] w fun e w' => e = .returned (.int .u32 (ror x n : Nat)) ∧ ∃ m, w' = w.drewN m := by
  have r3 := or_right x n (32 - n) rfl hx
  have hm : IntKind.i64.wrap (32 - (n : Int)) = ((32 - n : Nat) : Int) := by rw [IntWalk.i64_in _ ⟨by omega, by omega⟩]; omega
  have hm' : (32 - (n : Int)) = ((32 - n : Nat) : Int) := by omega
  generalize 32 - n = m at *
  generalize ror x n = S at *
  clear hx h1 h2
  have HM := Lib.hid hm
  have HM' := Lib.hid hm'
  have R3 := Lib.hid r3
  clear hm hm' r3
  go_enter Try.func47, Try.ntmps47
  go_wp2
  have hm := HM.out
  have hm' := HM'.out
  go_quiet (fail)
  simp only [Exit.then]
  apply_assumption
  clear hm hm'
  go_wp2
  go_ret
  exact ⟨ret_u32 R3.out, _, rfl⟩
theorem rol_any (x n : Nat) (hx : x < 4294967296) (h1 : 1 ≤ n) (h2 : n ≤ 31) (w : World) :
    Calls Try.prog 68 #[.int .u32 (x : Int), .int .i64 (-(n : Int))] w fun e w' => e = .returned (.int .u32 (ror x n : Nat)) ∧ w = w' := by
  have r3 := or_left x n (32 - n) rfl hx
  have hb : bits BinOp.and IntKind.u64 (IntKind.u64.wrap (-(n : Int))) 31 = ((32 - n : Nat) : Int) := by
    have e : IntKind.u64.wrap (-(n : Int)) = ((18446744073709551616 - n : Nat) : Int) := by rw [IntKind.wrap_u64]; omega
    rw [e]
    have := u64_and_nat (18446744073709551616 - n) 31 (by omega) (by omega)
    rw [show (31 : Nat) = 2 ^ 5 - 1 from rfl, Nat.and_two_pow_sub_one_eq_mod] at this
    rw [show ((2 ^ 5 - 1 : Nat) : Int) = 31 from rfl] at this
    rw [this]; omega
  have hm : IntKind.u64.wrap (32 - ((32 - n : Nat) : Int)) = (n : Int) := by rw [IntKind.wrap_u64]; omega
  have m1 : min (32 - n) 32 = 32 - n := by omega
  have m2 : min n 32 = n := by omega
  generalize hmm : 32 - n = m at *
  have R3 := Lib.hid r3
  clear hmm hx h1 h2 r3
  generalize ror x n = S at *
  go_enter Try.func68, Try.ntmps68
  go_wp2
  go_ret
  exact ⟨ret_u32 R3.out, rfl⟩
end Go.Proofs.Ytfakkbjnapelfaa.Dg
