/- Walk of pair.Turn. -/
import Derived.Test.YtfakkbjnapelfaaFC
namespace Go.Proofs.Ytfakkbjnapelfaa
open Go.RowKit
open Fl

/-- Quarters of a turn, one by one. -/
def rotA : Nat → Int → Int → Int
  | 0, a, _ => a
  | k + 1, a, b => rotA k (-b) a
def rotB : Nat → Int → Int → Int
  | 0, _, b => b
  | k + 1, a, b => rotB k (-b) a

/-- What holds at each jump back. -/
def TurnJ (q A B : Int) (w : World) (a' : Act) (w' : World) : Prop :=
  w = w' ∧ ∃ (a b : Int) (k : Nat) (u2 u3 u4 u6 u7 u8 u9 u10 u11 u12 u13 u14 u15 u16 u17 u18 u19 u20 u21 u22 u23 u24 u25 : Value), a' = { tmps := #[.complex .f64 (fb a) (fb b), .int .i64 q, u2, u3, u4, .int .i64 k, u6, u7, u8, u9, u10, u11, u12, u13, u14, u15, u16, u17, u18, u19, u20, u21, u22, u23, u24, u25], defers := [] } ∧ In a ∧ In b ∧ k ≤ 3 ∧ rotA k a b = A ∧ rotB k a b = B

theorem In.neg {a : Int} (h : In a) : In (-a) := by unfold In at *; omega

set_option maxRecDepth 1000000 in
theorem turn_any (a b : Int) (q : Nat) (hq : q ≤ 510) (ha : In a) (hb : In b) (w : World) :
    Calls Try.prog 12 #[cplx a b, .int .i64 (q : Int)] w fun e w' => e = .returned (cplx (rotA (q % 4) a b) (rotB (q % 4) a b)) ∧ w = w' := by
  have KI := Lib.hid (is_any a b ha hb)
  have KB := Lib.hid (below_any b hb)
  obtain ⟨r, hr⟩ : ∃ r, r = q % 4 := ⟨_, rfl⟩
  have hr2 : r ≤ 3 := by omega
  have hrem : (q : Int) % 4 = (r : Int) := by omega
  rw [← hr]
  obtain ⟨A, hA⟩ : ∃ A, rotA r a b = A := ⟨_, rfl⟩
  obtain ⟨B, hB⟩ : ∃ B, rotB r a b = B := ⟨_, rfl⟩
  rw [hA, hB]
  have HA := Lib.hid hA
  have HB := Lib.hid hB
  have HIN := Lib.hid (And.intro ha hb)
  clear hr hA hB ha hb
  unfold cplx at *
  have hq0 : (0 : Int) ≤ q := by omega
  go_enter Try.func12, Try.ntmps12
  go_wp2
  refine wp_scope_jumps 0 (TurnJ q A B w) (fun a' _ => (intOf (a'.tmps.getD 5 undef)).toNat) rfl ?_ ?_
  · obtain rfl | ⟨k, rfl⟩ : r = 0 ∨ ∃ k, r = k + 1 := by cases r with
      | zero => exact Or.inl rfl
      | succ k => exact Or.inr ⟨k, rfl⟩
    · replace hrem : (q : Int) % 4 = 0 := hrem
      go_wp2_with ((go_at_call 29; ((with_reducible refine (KI.out _).mono ?_); rintro e w1 ⟨rfl, rfl⟩)))
      go_step3
      simp only [Exit.then]
      apply_assumption
      go_wp2
      simp only [Exit.jump]
      go_ret
      rw [← HA.out, ← HB.out]
      exact ⟨rfl, rfl⟩
    · replace hrem : (q : Int) % 4 = (k : Int) + 1 := by omega
      go_wp2_with ((go_at_call 29; ((with_reducible refine (KI.out _).mono ?_); rintro e w1 ⟨rfl, rfl⟩)))
      go_step3
      simp only [Exit.then]
      apply_assumption
      go_wp2_with ((go_at_call 31; ((with_reducible refine (KB.out _).mono ?_); rintro e w1 ⟨rfl, rfl⟩)))
      go_step3
      exact ⟨rfl, rfl, -b, a, k, _, _, _, _, _, _, _, _, _, _, _, _, _, _, _, _, _, _, _, _, _, _, _, rfl, HIN.out.2.neg, HIN.out.1, by omega, HA.out, HB.out⟩
  · rintro a' w' ⟨rfl, a, b, r, u2, u3, u4, u6, u7, u8, u9, u10, u11, u12, u13, u14, u15, u16, u17, u18, u19, u20, u21, u22, u23, u24, u25, rfl, ha, hb, hk, hA, hB⟩
    clear KB HA HB hrem hr2 KI HIN
    have HA := Lib.hid hA
    have HB := Lib.hid hB
    have KB := Lib.hid (below_any b hb)
    have HIN := Lib.hid (And.intro ha hb)
    clear hA hB ha hb
    obtain rfl | ⟨k, rfl⟩ : r = 0 ∨ ∃ k, r = k + 1 := by cases r with
      | zero => exact Or.inl rfl
      | succ k => exact Or.inr ⟨k, rfl⟩
    · go_wp2
      simp only [Exit.jump]
      go_ret
      rw [← HA.out, ← HB.out]
      exact ⟨rfl, rfl⟩
    · go_wp2_with ((go_at_call 31; ((with_reducible refine (KB.out _).mono ?_); rintro e w1 ⟨rfl, rfl⟩)))
      go_step3
      refine ⟨rfl, ⟨rfl, -b, a, k, _, _, _, _, _, _, _, _, _, _, _, _, _, _, _, _, _, _, _, _, _, _, _, rfl, HIN.out.2.neg, HIN.out.1, by omega, HA.out, HB.out⟩, ?_⟩
      simp [intOf]
end Go.Proofs.Ytfakkbjnapelfaa
