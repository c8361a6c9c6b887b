/- Contracts of pair's functions, at pairs: is it one, its parts, sums, turns, mirrors, which one is ahead. -/
import Derived.Test.YtfakkbjnapelfaaFB
namespace Go.Proofs.Ytfakkbjnapelfaa
open Go.RowKit
open Fl

def cplx (a b : Int) : Value := .complex .f64 (fb a) (fb b)

theorem is_any (a b : Int) (ha : In a) (hb : In b) (w : World) :
    Calls Try.prog 29 #[cplx a b] w fun e w' => e = .returned (.bool true) ∧ w = w' := by
  have KA := Lib.hid (part_any a ha)
  have KB := Lib.hid (part_any b hb)
  unfold cplx
  generalize fb a = x at *
  generalize fb b = y at *
  go_enter Try.func29, Try.ntmps29
  go_wp2_with (first
    | (go_at_call 50; ((with_reducible refine (KA.out _).mono ?_); rintro e w1 ⟨rfl, rfl⟩))
    | (go_at_call 50; ((with_reducible refine (KB.out _).mono ?_); rintro e w1 ⟨rfl, rfl⟩)))
  go_ret
  exact ⟨rfl, rfl⟩

theorem toInt_fb (a : Int) (h : In a) : floatToIntVal .f64 (fb a) .i64 = some a := by
  obtain ⟨k, e⟩ := read_fb a h.small3
  unfold floatToIntVal
  rw [show FloatKind.f64.decode (fb a) = _ from e]
  have e2 : (Ieee.Datum.number (decide (a < 0)) (a.natAbs * 2 ^ k) (-(k : Int))).toInt .zero = some a := by
    unfold Ieee.Datum.toInt Ieee.Datum.integral
    dsimp only
    rw [show (-(k : Int)).toNat = 0 by omega, Nat.shiftLeft_zero, show (- -(k : Int)).toNat = k by omega, cut_zero]
    unfold Ieee.signed
    rw [Nat.shiftLeft_zero]
    by_cases g : a < 0
    · rw [if_pos (by simpa using g)]; congr 1; omega
    · rw [if_neg (by simpa using g)]; congr 1; omega
  rw [e2]
  unfold In at h
  exact if_pos ⟨by show (-9223372036854775808 : Int) ≤ a; omega, by show a ≤ (9223372036854775807 : Int); omega⟩
theorem run_to (a : Int) (h : In a) (w : World) : (convert 57 2 (.float .f64 (fb a))).run Try.prog w = .ok (.int .i64 a) w :=
  run_convert_float_int w 57 2 .f64 .i64 (fb a) a (by kernel_rfl) (by kernel_rfl) (toInt_fb a h)
theorem run_of (a : Int) (w : World) : (convert 2 57 (.int .i64 a)).run Try.prog w = .ok (.float .f64 (fb a)) w :=
  run_convert_int_float w 2 57 .i64 .f64 a (by kernel_rfl) (by kernel_rfl)

theorem parts_any (a b : Int) (ha : In a) (hb : In b) (w : World) :
    Calls Try.prog 28 #[cplx a b] w fun e w' => e = .returned (.tuple #[.int .i64 a, .int .i64 b, .int .i64 0]) ∧ w = w' := by
  have KI := Lib.hid (is_any a b ha hb)
  have h1 := run_to a ha
  have h2 := run_to b hb
  unfold cplx at *
  generalize fb a = x at *
  generalize fb b = y at *
  go_enter Try.func28, Try.ntmps28
  go_wp2_with ((go_at_call 29; ((with_reducible refine (KI.out _).mono ?_); rintro e w1 ⟨rfl, rfl⟩)))
  go_ret3
  exact ⟨rfl, rfl⟩

theorem of_any (a b : Int) (ha : In a) (hb : In b) (w : World) :
    Calls Try.prog 8 #[.int .i64 a, .int .i64 b] w fun e w' => e = .returned (.tuple #[cplx a b, .int .i64 0]) ∧ w = w' := by
  have h1 := run_of a
  have h2 := run_of b
  obtain ⟨a1, a2⟩ := ha
  obtain ⟨b1, b2⟩ := hb
  unfold cplx at *
  generalize fb a = x at *
  generalize fb b = y at *
  go_enter Try.func8, Try.ntmps8
  go_wp2
  go_ret2
  exact ⟨rfl, rfl⟩

def holdI (n : Int) : Int := if 1099511627776 < n then 1099511627776 else if n < -1099511627776 then -1099511627776 else n
theorem holdI_in (n : Int) : In (holdI n) := by unfold holdI In; split <;> (try split) <;> omega
theorem hold_any (n : Int) (w : World) :
    Calls Try.prog 9 #[.int .i64 n] w fun e w' => e = .returned (.int .i64 (holdI n)) ∧ w = w' := by
  unfold holdI
  by_cases h : 1099511627776 < n
  · rw [if_pos h]
    go_enter Try.func9, Try.ntmps9
    go_wp2
    go_ret
    exact ⟨rfl, rfl⟩
  · rw [if_neg h]
    by_cases h2 : n < -1099511627776
    · rw [if_pos h2]
      go_enter Try.func9, Try.ntmps9
      go_wp2
      go_ret
      exact ⟨rfl, rfl⟩
    · rw [if_neg h2]
      go_enter Try.func9, Try.ntmps9
      go_wp2
      go_ret
      exact ⟨rfl, rfl⟩

theorem run_below (a : Int) (h : In a) (w : World) : (binOp .sub 57 (.float .f64 0) (.float .f64 (fb a))).run Try.prog w = .ok (.float .f64 (fb (-a))) w := by
  refine run_float_arith w .sub 57 .f64 0 (fb a) (fb (-a)) ?_
  have := sub_fb 0 a (by decide) h.small
  rw [Int.zero_sub, fb_zero] at this
  exact this
theorem below_any (a : Int) (h : In a) (w : World) :
    Calls Try.prog 31 #[.float .f64 (fb a)] w fun e w' => e = .returned (.float .f64 (fb (-a))) ∧ w = w' := by
  have h1 := run_below a h
  generalize fb a = x at *
  generalize fb (-a) = y at *
  go_enter Try.func31, Try.ntmps31
  go_wp2
  go_ret
  exact ⟨rfl, rfl⟩

theorem run_max (a b : Int) (ha : a.natAbs < 2 ^ 53) (hb : b.natAbs < 2 ^ 53) (ts : Array TypeId) (t : TypeId) (w : World) :
    (Builtin.max_ ts t #[.float .f64 (fb a), .float .f64 (fb b)]).run Try.prog w = .ok (.float .f64 (fb (if a < b then b else a))) w := by
  have h := order_lits a b ha hb
  rcases Int.lt_trichotomy a b with g | g | g
  · rw [show (if a < b then b else a) = b from if_pos g]
    show (Builtin.max2 (.float .f64 (fb a)) (.float .f64 (fb b)) >>= pure).run Try.prog w = _
    unfold Builtin.max2
    dsimp only
    rw [h, cmp_lt g]; rfl
  · subst g
    rw [show (if a < a then a else a) = a from ite_self _]
    show (Builtin.max2 (.float .f64 (fb a)) (.float .f64 (fb a)) >>= pure).run Try.prog w = _
    unfold Builtin.max2
    dsimp only
    rw [h, cmp_eq]
    dsimp only
    rw [ite_self]; rfl
  · rw [show (if a < b then b else a) = a from if_neg (by omega)]
    show (Builtin.max2 (.float .f64 (fb a)) (.float .f64 (fb b)) >>= pure).run Try.prog w = _
    unfold Builtin.max2
    dsimp only
    rw [h, cmp_gt g]; rfl
theorem run_min (a b : Int) (ha : a.natAbs < 2 ^ 53) (hb : b.natAbs < 2 ^ 53) (ts : Array TypeId) (t : TypeId) (w : World) :
    (Builtin.min_ ts t #[.float .f64 (fb a), .float .f64 (fb b)]).run Try.prog w = .ok (.float .f64 (fb (if b < a then b else a))) w := by
  have h := order_lits a b ha hb
  rcases Int.lt_trichotomy a b with g | g | g
  · rw [show (if b < a then b else a) = a from if_neg (by omega)]
    show (Builtin.min2 (.float .f64 (fb a)) (.float .f64 (fb b)) >>= pure).run Try.prog w = _
    unfold Builtin.min2
    dsimp only
    rw [h, cmp_lt g]; rfl
  · subst g
    rw [show (if a < a then a else a) = a from ite_self _]
    show (Builtin.min2 (.float .f64 (fb a)) (.float .f64 (fb a)) >>= pure).run Try.prog w = _
    unfold Builtin.min2
    dsimp only
    rw [h, cmp_eq]
    dsimp only
    rw [ite_self]; rfl
  · rw [show (if b < a then b else a) = b from if_pos g]
    show (Builtin.min2 (.float .f64 (fb a)) (.float .f64 (fb b)) >>= pure).run Try.prog w = _
    unfold Builtin.min2
    dsimp only
    rw [h, cmp_gt g]; rfl
theorem held_any (a : Int) (h : a.natAbs < 2 ^ 53) (w : World) :
    Calls Try.prog 32 #[.float .f64 (fb a)] w fun e w' => e = .returned (.float .f64 (fb (holdI a))) ∧ w = w' := by
  have h1 := run_max a (-1099511627776) h (by decide)
  have h2 := run_min (if a < -1099511627776 then -1099511627776 else a) 1099511627776 (by split <;> first | decide | exact h) (by decide)
  rw [show (if 1099511627776 < (if a < -1099511627776 then -1099511627776 else a) then 1099511627776 else (if a < -1099511627776 then -1099511627776 else a)) = holdI a by unfold holdI; split <;> split <;> (try split) <;> omega] at h2
  rw [fb_least] at h1
  rw [fb_most] at h2
  generalize fb (if a < -1099511627776 then -1099511627776 else a) = z at *
  generalize fb a = x at *
  generalize fb (holdI a) = y at *
  go_enter Try.func32, Try.ntmps32
  go_wp2
  go_ret
  exact ⟨rfl, rfl⟩

theorem run_sum (a b c d : Int) (ha : In a) (hb : In b) (hc : In c) (hd : In d) (w : World) :
    (binOp .add 26 (cplx a b) (cplx c d)).run Try.prog w = .ok (cplx (a + c) (b + d)) w := by
  refine run_complex_sum w .add (Or.inl rfl) 26 .f64 _ _ _ _ _ _ ?_
  unfold cSumBits
  rw [show floatBits .add .f64 (fb a) (fb c) = some (fb (a + c)) from add_fb a c ha.small hc.small, show floatBits .add .f64 (fb b) (fb d) = some (fb (b + d)) from add_fb b d hb.small hd.small]
  rfl
theorem add_any (a b c d : Int) (ha : In a) (hb : In b) (hc : In c) (hd : In d) (w : World) :
    Calls Try.prog 14 #[cplx a b, cplx c d] w fun e w' => e = .returned (cplx (holdI (a + c)) (holdI (b + d))) ∧ w = w' := by
  have KI := Lib.hid (is_any a b ha hb)
  have KJ := Lib.hid (is_any c d hc hd)
  have h1 := run_sum a b c d ha hb hc hd
  have e53 : (2 : Nat) ^ 53 = 9007199254740992 := rfl
  have KA := Lib.hid (held_any (a + c) (by rw [e53]; unfold In at *; omega))
  have KB := Lib.hid (held_any (b + d) (by rw [e53]; unfold In at *; omega))
  unfold cplx at *
  generalize fb a = x at *
  generalize fb b = y at *
  generalize fb c = z at *
  generalize fb d = u at *
  generalize fb (a + c) = p at *
  generalize fb (b + d) = q at *
  generalize fb (holdI (a + c)) = r at *
  generalize fb (holdI (b + d)) = s at *
  go_enter Try.func14, Try.ntmps14
  go_wp2_with (first
    | (go_at_call 29; ((with_reducible refine (KI.out _).mono ?_); rintro e w1 ⟨rfl, rfl⟩))
    | (go_at_call 29; ((with_reducible refine (KJ.out _).mono ?_); rintro e w1 ⟨rfl, rfl⟩))
    | (go_at_call 32; ((with_reducible refine (KA.out _).mono ?_); rintro e w1 ⟨rfl, rfl⟩))
    | (go_at_call 32; ((with_reducible refine (KB.out _).mono ?_); rintro e w1 ⟨rfl, rfl⟩)))
  go_ret
  exact ⟨rfl, rfl⟩

theorem mirror_any (a b : Int) (ha : In a) (hb : In b) (w : World) :
    Calls Try.prog 13 #[cplx a b] w fun e w' => e = .returned (cplx a (-b)) ∧ w = w' := by
  have KI := Lib.hid (is_any a b ha hb)
  have KB := Lib.hid (below_any b hb)
  unfold cplx at *
  generalize fb a = x at *
  generalize fb b = y at *
  generalize fb (-b) = z at *
  go_enter Try.func13, Try.ntmps13
  go_wp2_with (first
    | (go_at_call 29; ((with_reducible refine (KI.out _).mono ?_); rintro e w1 ⟨rfl, rfl⟩))
    | (go_at_call 31; ((with_reducible refine (KB.out _).mono ?_); rintro e w1 ⟨rfl, rfl⟩)))
  go_ret
  exact ⟨rfl, rfl⟩
end Go.Proofs.Ytfakkbjnapelfaa
