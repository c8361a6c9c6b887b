/- Walks of word.Add and word.Sub. -/
import Derived.Test.YtffjmdgpkaiajaaRows
import Derived.WalkKit
import Derived.WalkLawsBesides
import Derived.Outline
import Derived.Laws.Externs
namespace Go.Proofs.Ytffjmdgpkaiajaa
open Go.RowKit

/-- The greatest number of 64 bits. -/
def top64 : Int := 18446744073709551615
def addI (a b : Int) : Int := if a + b ≤ top64 then a + b else top64
def subI (a b : Int) : Int := if a < b then 0 else a - b

theorem run28 (x y : Int) (hx : 0 ≤ x) (hy : 0 ≤ y) (w : World) :
    (callFunc 28 #[.int .u64 x, .int .u64 y, .int .u64 0]).run Try.prog w =
      .ok (.value (.tuple #[.int .u64 ((x + y) % 18446744073709551616), .int .u64 ((x + y) / 18446744073709551616)])) w := by
  rw [run_callFunc_extern Try.func28 (by kernel_rfl) (by kernel_rfl) (by kernel_rfl) (e := add64Entry) (by kernel_rfl), run_add64 x y 0 hx hy (by omega) (by omega)]
  simp only [Result.andThen, Int.add_zero]

theorem add_any (a b : Int) (ha0 : 0 ≤ a) (hb0 : 0 ≤ b) (ha : a ≤ top64) (hb : b ≤ top64) (w : World) :
    Calls Try.prog 16 #[.int .u64 a, .int .u64 b] w fun e w' => e = .returned (.int .u64 (addI a b)) ∧ w = w' := by
  have hd := fun w => run28 a b ha0 hb0 w
  unfold top64 at ha hb
  unfold addI top64
  by_cases h : a + b ≤ 18446744073709551615
  · have e1 : (a + b) % 18446744073709551616 = a + b := by omega
    have e2 : (a + b) / 18446744073709551616 = 0 := by omega
    rw [e1, e2] at hd
    rw [if_pos h]
    clear ha hb h e1 e2
    go_enter Try.func16, Try.ntmps16
    go_wp2
    go_ret
    exact ⟨rfl, rfl⟩
  · have e2 : (a + b) / 18446744073709551616 = 1 := by omega
    rw [e2] at hd
    rw [if_neg h]
    generalize (a + b) % 18446744073709551616 = r at hd
    clear ha hb h e2
    go_enter Try.func16, Try.ntmps16
    go_wp2
    go_ret
    exact ⟨rfl, rfl⟩

theorem sub_any (a b : Int) (hb0 : 0 ≤ b) (ha : a ≤ top64) (w : World) :
    Calls Try.prog 17 #[.int .u64 a, .int .u64 b] w fun e w' => e = .returned (.int .u64 (subI a b)) ∧ w = w' := by
  have hw : b ≤ a → IntKind.u64.wrap (a - b) = a - b := by
    unfold top64 at ha
    intro h
    exact IntWalk.u64_in _ ⟨by omega, by omega⟩
  unfold subI
  clear ha
  by_cases h : a < b
  · rw [if_pos h]
    go_enter Try.func17, Try.ntmps17
    go_wp2
    go_ret
    exact ⟨rfl, rfl⟩
  · rw [if_neg h]
    have hw' := hw (by omega)
    clear hw
    go_enter Try.func17, Try.ntmps17
    go_wp2
    go_ret
    exact ⟨rfl, rfl⟩
end Go.Proofs.Ytffjmdgpkaiajaa
