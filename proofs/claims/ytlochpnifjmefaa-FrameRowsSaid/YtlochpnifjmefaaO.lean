import Derived.Test.YtlochpnifjmefaaN
import Derived.Test.YtlochpnifjmefaaE
/- Calls of sum.CRC and sum.Quick over parts just laid; awake of layer 2. -/
namespace Go.Proofs.Ytlochpnifjmefaa
open Go.RowKit

/-- The CRC of a list of bytes. -/
def crcV (l : List UInt8) : Nat := 4294967295 - crc0 l
theorem crcV_lt (l : List UInt8) : crcV l < 4294967296 := by unfold crcV; omega

theorem cell_new (w : World) (cs : Array Value) (t : TypeId) (j : Nat) : (w.alloc (.cells cs t)).cell? ⟨w.heap.size, j, none⟩ = cs[j]? := World.cell?_alloc_new w cs t j

theorem parts_one (w : World) (s : ByteArray) : Parts (w.alloc (.cells #[.string s] 9)) w.heap.size [s] := by
  intro j hj
  rw [cell_new]
  match j, hj with
  | 0, _ => rfl
theorem parts_two (w : World) (s t : ByteArray) : Parts (w.alloc (.cells #[.string s, .string t] 9)) w.heap.size [s, t] := by
  intro j hj
  rw [cell_new]
  match j, hj with
  | 0, _ => rfl
  | 1, _ => rfl
theorem parts_three (w : World) (s t u : ByteArray) : Parts (w.alloc (.cells #[.string s, .string t, .string u] 9)) w.heap.size [s, t, u] := by
  intro j hj
  rw [cell_new]
  match j, hj with
  | 0, _ => rfl
  | 1, _ => rfl
  | 2, _ => rfl
theorem sizes_one {s : ByteArray} (h : s.size ≤ 1000000000) : ∀ j, ([s].getD j ByteArray.empty).size ≤ 1000000000 := by
  intro j
  match j with
  | 0 => exact h
  | _ + 1 => exact Nat.zero_le _
theorem sizes_two {s t : ByteArray} (h : s.size ≤ 1000000000) (h2 : t.size ≤ 1000000000) : ∀ j, ([s, t].getD j ByteArray.empty).size ≤ 1000000000 := by
  intro j
  match j with
  | 0 => exact h
  | 1 => exact h2
  | _ + 2 => exact Nat.zero_le _
theorem sizes_three {s t u : ByteArray} (h : s.size ≤ 1000000000) (h2 : t.size ≤ 1000000000) (h3 : u.size ≤ 1000000000) : ∀ j, ([s, t, u].getD j ByteArray.empty).size ≤ 1000000000 := by
  intro j
  match j with
  | 0 => exact h
  | 1 => exact h2
  | 2 => exact h3
  | _ + 3 => exact Nat.zero_le _

theorem crc_one (s : ByteArray) (w : World) (g : Nat) (hg : g = w.heap.size) (h : s.size ≤ 1000000000) :
    Calls Try.prog 62 #[.slice (some ⟨g, 0, none⟩) 1 1] (w.alloc (.cells #[.string s] 9)) fun e w' => e = .returned (.int .u32 (crcV s.data.toList)) ∧ w.alloc (.cells #[.string s] 9) = w' := by
  subst hg
  have := crc_any [s] w.heap.size 1 (w.alloc (.cells #[.string s] 9)) (by simp) (sizes_one h) (parts_one w s)
  rw [show flat [s] = s.data.toList by simp [flat]] at this
  exact this
theorem crc_two (s t : ByteArray) (w : World) (g : Nat) (hg : g = w.heap.size) (h : s.size ≤ 1000000000) (h2 : t.size ≤ 1000000000) :
    Calls Try.prog 62 #[.slice (some ⟨g, 0, none⟩) 2 2] (w.alloc (.cells #[.string s, .string t] 9)) fun e w' => e = .returned (.int .u32 (crcV (s.data.toList ++ t.data.toList))) ∧ w.alloc (.cells #[.string s, .string t] 9) = w' := by
  subst hg
  have := crc_any [s, t] w.heap.size 2 (w.alloc (.cells #[.string s, .string t] 9)) (by simp) (sizes_two h h2) (parts_two w s t)
  rw [show flat [s, t] = s.data.toList ++ t.data.toList by simp [flat]] at this
  exact this
theorem crc_three (s t u : ByteArray) (w : World) (g : Nat) (hg : g = w.heap.size) (h : s.size ≤ 1000000000) (h2 : t.size ≤ 1000000000) (h3 : u.size ≤ 1000000000) :
    Calls Try.prog 62 #[.slice (some ⟨g, 0, none⟩) 3 3] (w.alloc (.cells #[.string s, .string t, .string u] 9)) fun e w' => e = .returned (.int .u32 (crcV (s.data.toList ++ (t.data.toList ++ u.data.toList)))) ∧ w.alloc (.cells #[.string s, .string t, .string u] 9) = w' := by
  subst hg
  have := crc_any [s, t, u] w.heap.size 3 (w.alloc (.cells #[.string s, .string t, .string u] 9)) (by simp) (sizes_three h h2 h3) (parts_three w s t u)
  rw [show flat [s, t, u] = s.data.toList ++ (t.data.toList ++ u.data.toList) by simp [flat]] at this
  exact this
theorem rcrc_one (p : ByteArray) (w : World) (hp : p.size ≤ 1000000000) : Calls Try.prog 58 #[.string p] w fun e w' => e = .returned (.int .u32 (crcV p.data.toList)) ∧ w = w' := rcrc_any p w hp

theorem awake2_any (w : World) : Calls Try.prog 56 #[] w fun e w' => e = .returned (.bool true) ∧ Below w.heap.size w w' := by
  have hv : crcV ((⟨#[49, 50, 51, 52, 53]⟩ : ByteArray).data.toList ++ (⟨#[54, 55, 56, 57]⟩ : ByteArray).data.toList) = 3808858755 := by kernel_rfl
  have k1 := fun w g hg => crc_two ⟨#[49, 50, 51, 52, 53]⟩ ⟨#[54, 55, 56, 57]⟩ w g hg (by decide) (by decide)
  rw [hv] at k1
  have K1 := Lib.hid k1
  clear k1 hv
  have hB := Below.refl w.heap.size w
  go_enter Try.func56, Try.ntmps56
  go_wp2_with (first
    | (go_at_call 31; go_must (refine (awake1_any _).mono ?_); rintro e w1 ⟨rfl, hb1⟩; replace hB := hB.trans (hb1.mono hB.size))
    | (go_at_call 62; go_must (refine (K1.out _ _ (by simp)).mono ?_); rintro e w1 ⟨rfl, rfl⟩))
  go_ret
  exact ⟨rfl, hB.alloc hB.size _⟩
end Go.Proofs.Ytlochpnifjmefaa
