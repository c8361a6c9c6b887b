/- The parts of pairs: contracts of the float functions that pair calls. -/
import Derived.Test.YtfakkbjnapelfaaRows
import Derived.Test.YtfakkbjnapelfaaFA
import Derived.WalkKit
import Derived.WalkLawsBesides
import Derived.Outline
import Derived.Laws.Externs
import Derived.Laws.BitsAllLaws
import Derived.Lib.Hide
import Derived.WalkSpells
import Derived.Deep.DeepCutAuto
import Derived.Deep.CutBlock
import Derived.Deep.QuietTactic
import Derived.BigQuiet
namespace Go.Proofs.Ytfakkbjnapelfaa
open Go.RowKit
open Fl

theorem run51 (x : Nat) (w : World) : (callFunc 51 #[.float .f64 x]).run Try.prog w = .ok (.value (.int .u64 (x : Int))) w := by
  rw [run_callFunc_extern Try.func51 (by kernel_rfl) (by kernel_rfl) (by kernel_rfl) (e := Extern.MathFloatBits.float64bits) (by kernel_rfl)]
  rfl
theorem run69 (x : Nat) (w : World) : (callFunc 69 #[.int .u64 (x : Int)]).run Try.prog w = .ok (.value (.float .f64 x)) w := by
  rw [run_callFunc_extern Try.func69 (by kernel_rfl) (by kernel_rfl) (by kernel_rfl) (e := Extern.MathFloatBits.float64frombits) (by kernel_rfl)]
  rfl
theorem run70 (a : Int) (h : a.natAbs < 2 ^ 53) (w : World) : (callFunc 70 #[.float .f64 (fb a)]).run Try.prog w = .ok (.value (.float .f64 (fb a))) w := by
  rw [run_callFunc_extern Try.func70 (by kernel_rfl) (by kernel_rfl) (by kernel_rfl) (e := Extern.MathFloor.toIntegral "math.archTrunc" .zero) (by kernel_rfl)]
  obtain ⟨s, m, p, e1, e2⟩ := trunc_fb a h
  have e3 : Extern.MathFloor.toIntegral "math.archTrunc" .zero #[.float .f64 (fb a)] = pure (.float .f64 (FloatKind.f64.encode ((Ieee.Datum.number s m p).integral .zero))) := by
    show (match Ieee.double.read (fb a) with
      | .nan s t => _
      | d => pure (Value.float .f64 (FloatKind.f64.encode (d.integral .zero)))) = _
    rw [e1]
  rw [e3, show FloatKind.f64.encode ((Ieee.Datum.number s m p).integral .zero) = fb a from e2]
  rfl

theorem abs_any (a : Int) (h : a.natAbs < 2 ^ 53) (w : World) :
    Calls Try.prog 63 #[.float .f64 (fb a)] w fun e w' => e = .returned (.float .f64 (fb (a.natAbs : Int))) ∧ w = w' := by
  have h1 := run51 (fb a)
  have h2 := run69 (fb (a.natAbs : Int))
  have h3 : bits .andNot .u64 ((fb a : Nat) : Int) 9223372036854775808 = ((fb (a.natAbs : Int) : Nat) : Int) := by
    have hb : fb a < 18446744073709551616 := by
      have := fb_le a h
      have hs : Ieee.double.signWeight = 9223372036854775808 := by decide +kernel
      rw [hs] at this
      rcases Int.lt_or_le a 0 with g | g
      · exact (this.1 g).2
      · have := this.2 g; omega
    rw [u64_andNot _ _ (by omega) (by omega) (by omega) (by omega)]
    have hs : Ieee.double.signWeight = 2 ^ 63 := by decide +kernel
    have := fb_abs a h
    rw [hs] at this
    rw [← this, Int.toNat_natCast, ← Nat.and_two_pow_sub_one_eq_mod]
    rfl
  generalize fb (a.natAbs : Int) = x at *
  generalize fb a = y at *
  go_enter Try.func63, Try.ntmps63
  go_wp2
  go_ret
  exact ⟨rfl, rfl⟩
theorem trunc_any (a : Int) (h : a.natAbs < 2 ^ 53) (w : World) :
    Calls Try.prog 64 #[.float .f64 (fb a)] w fun e w' => e = .returned (.float .f64 (fb a)) ∧ w = w' := by
  have h1 := run70 a h
  generalize fb a = y at *
  go_enter Try.func64, Try.ntmps64
  go_wp2
  go_ret
  exact ⟨rfl, rfl⟩
theorem sign_any (a : Int) (h : a.natAbs < 2 ^ 53) (w : World) :
    Calls Try.prog 30 #[.float .f64 (fb a)] w fun e w' => e = .returned (.bool (decide (a < 0))) ∧ w = w' := by
  have h1 := run51 (fb a)
  have hb := fb_le a h
  have hs : Ieee.double.signWeight = 9223372036854775808 := by decide +kernel
  rw [hs] at hb
  have hb2 : (fb a : Int) < 18446744073709551616 := by
    rcases Int.lt_or_le a 0 with g | g
    · have := (hb.1 g).2; omega
    · have := hb.2 g; omega
  have h2 : decide (wrap64 ((fb a : Nat) : Int) < 0) = decide (a < 0) := by
    unfold wrap64
    refine decide_eq_decide.2 ?_
    rcases Int.lt_or_le a 0 with g | g
    · have := hb.1 g; omega
    · have := hb.2 g; omega
  clear hs hb hb2
  generalize fb a = y at *
  generalize decide (a < 0) = D at *
  go_enter Try.func30, Try.ntmps30
  go_wp2
  go_ret
  exact ⟨rfl, rfl⟩

/-- A part of a pair. -/
def In (a : Int) : Prop := -1099511627776 ≤ a ∧ a ≤ 1099511627776
theorem In.small {a : Int} (h : In a) : a.natAbs < 2 ^ 52 := by
  have e : (2 : Nat) ^ 52 = 4503599627370496 := rfl
  rw [e]; unfold In at h; omega
theorem In.small3 {a : Int} (h : In a) : a.natAbs < 2 ^ 53 := by
  have e : (2 : Nat) ^ 53 = 9007199254740992 := rfl
  rw [e]; unfold In at h; omega
theorem fb_most : fb 1099511627776 = 4787326403894837248 := by decide +kernel
theorem fb_least : fb (-1099511627776) = 14010698440749613056 := by decide +kernel
theorem order_lits (a b : Int) (ha : a.natAbs < 2 ^ 53) (hb : b.natAbs < 2 ^ 53) : FloatKind.f64.format.order (fb a) (fb b) = some (compare a b) := order_fb a b ha hb

theorem part_any (a : Int) (h : In a) (w : World) :
    Calls Try.prog 50 #[.float .f64 (fb a)] w fun e w' => e = .returned (.bool true) ∧ w = w' := by
  have KA := Lib.hid (abs_any a h.small3)
  have KT := Lib.hid (trunc_any a h.small3)
  have KS := Lib.hid (sign_any a h.small3)
  have h0 := order_lits a 0 h.small3 (by decide)
  have h1 := order_lits (a.natAbs : Int) 1099511627776 (by have := h.small3; omega) (by decide)
  have h2 := order_lits a a h.small3 h.small3
  rw [fb_zero] at h0
  rw [fb_most] at h1
  rw [cmp_eq] at h2
  have h1' : FloatKind.f64.format.order (fb (a.natAbs : Int)) 4787326403894837248 = some .lt ∨ FloatKind.f64.format.order (fb (a.natAbs : Int)) 4787326403894837248 = some .eq := by
    rw [h1]
    unfold In at h
    by_cases g : (a.natAbs : Int) < 1099511627776
    · rw [cmp_lt g]; exact Or.inl rfl
    · rw [show (a.natAbs : Int) = 1099511627776 by omega, cmp_eq]; exact Or.inr rfl
  have h0' : (FloatKind.f64.format.order (fb a) 0 = some .eq ∧ decide (a < 0) = false) ∨ FloatKind.f64.format.order (fb a) 0 = some .lt ∨ FloatKind.f64.format.order (fb a) 0 = some .gt := by
    rw [h0]
    rcases Int.lt_trichotomy a 0 with g | g | g
    · rw [cmp_lt g]; exact Or.inr (Or.inl rfl)
    · subst g; rw [cmp_eq]; exact Or.inl ⟨rfl, rfl⟩
    · rw [cmp_gt g]; exact Or.inr (Or.inr rfl)
  clear h0 h1
  generalize decide (a < 0) = D at *
  generalize fb (a.natAbs : Int) = x at *
  generalize fb a = y at *
  rcases h1' with h1 | h1
  all_goals
    rcases h0' with ⟨h0, rfl⟩ | h0 | h0
    all_goals
      go_enter Try.func50, Try.ntmps50
      go_wp2_with (first
        | (go_at_call 63; ((with_reducible refine (KA.out _).mono ?_); rintro e w1 ⟨rfl, rfl⟩))
        | (go_at_call 64; ((with_reducible refine (KT.out _).mono ?_); rintro e w1 ⟨rfl, rfl⟩))
        | (go_at_call 30; ((with_reducible refine (KS.out _).mono ?_); rintro e w1 ⟨rfl, rfl⟩)))
      go_ret
      exact ⟨rfl, rfl⟩
end Go.Proofs.Ytfakkbjnapelfaa
