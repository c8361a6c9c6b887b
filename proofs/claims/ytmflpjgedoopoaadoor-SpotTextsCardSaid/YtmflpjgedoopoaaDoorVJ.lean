/- word.Get of two bytes, walked. -/
import Derived.Test.YtmflpjgedoopoaaDoorSA
import Derived.Laws.BitsAllLaws
namespace Go.Proofs.YtmflpjgedoopoaaDoor
open Go.RowKit

theorem or_step (n c : Nat) (hn : n < 256) (hc : c < 256) : bits BinOp.or IntKind.u64 (IntKind.u64.wrap ((n : Int) * 256)) (IntKind.u64.wrap (c : Int)) = ((n * 256 + c : Nat) : Int) := by
  rw [IntWalk.u64_in _ ⟨by omega, by omega⟩, IntWalk.u64_in _ ⟨by omega, by omega⟩]
  have h := u64_or_nat (n * 256) c (by omega) (by omega)
  have h2 := Nat.two_pow_add_eq_or_of_lt (i := 8) (show c < 2 ^ 8 from hc) n
  rw [show n * 256 ||| c = n * 256 + c by rw [show n * 256 = 2 ^ 8 * n by omega, ← h2]] at h
  rw [← h]; simp
def gv (c0 c1 : UInt8) (k : Nat) : Nat := if k = 0 then 0 else if k = 1 then c0.toNat else c0.toNat * 256 + c1.toNat
set_option maxRecDepth 1000000 in
theorem get_two (c0 c1 : UInt8) (w : World) : Calls Tryd.prog 58 #[.string ⟨#[c0, c1]⟩] w fun e w' => e = .returned (.tuple #[.int .u64 ((c0.toNat * 256 + c1.toNat : Nat) : Int), .int .i64 0]) ∧ w = w' := by
  have s0 := or_step 0 c0.toNat (by omega) c0.toNat_lt
  have s1 := or_step c0.toNat c1.toNat c0.toNat_lt c1.toNat_lt
  have hsz : (⟨#[c0, c1]⟩ : ByteArray).size = 2 := rfl
  have i0 : (⟨#[c0, c1]⟩ : ByteArray)[0] = c0 := rfl
  have i1 : (⟨#[c0, c1]⟩ : ByteArray)[1] = c1 := rfl
  go_enter Tryd.func58, Tryd.ntmps58
  go_wp2
  go_loop [4, 14] (fun n i => ∃ k : Nat, k ≤ 2 ∧ i = .int .i64 k ∧ n = .int .u64 (gv c0 c1 k)) (fun _ i => 2 - (intOf i).toNat)
  case atStart => exact ⟨0, Nat.zero_le _, rfl, rfl⟩
  case round =>
    obtain ⟨k, hk, rfl, rfl⟩ := hrel
    rcases (show k = 0 ∨ k = 1 ∨ k = 2 by omega) with rfl | rfl | rfl
    · go_wp2
      refine ⟨⟨1, by omega, rfl, ?_⟩, by simp [intOf]⟩
      have e : gv c0 c1 0 = 0 := rfl
      have e1 : gv c0 c1 1 = 0 * 256 + c0.toNat := by simp [gv]
      rw [e, e1, s0]
    · go_wp2
      refine ⟨⟨2, by omega, rfl, ?_⟩, by simp [intOf]⟩
      have e : gv c0 c1 1 = c0.toNat := rfl
      have e1 : gv c0 c1 2 = c0.toNat * 256 + c1.toNat := rfl
      rw [e, e1, s1]
    · go_wp2
      go_ret2
      exact ⟨rfl, rfl⟩
end Go.Proofs.YtmflpjgedoopoaaDoor
