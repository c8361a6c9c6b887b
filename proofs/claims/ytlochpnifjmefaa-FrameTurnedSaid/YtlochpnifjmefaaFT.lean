/- Walk of the law FrameTurned. -/
import Derived.Test.YtlochpnifjmefaaFG
namespace Go.Proofs.Ytlochpnifjmefaa
open Go.RowKit

theorem turned_kind (k : Int) (e : Nat) (b : ByteArray) (a y : Nat) (hk : k < 1 ∨ 255 < k) (w : World) :
    Calls Try.prog 7 #[.agg #[.int .i64 k, .int .u64 e, .string b], .int .u16 a, .int .u32 y] w fun e w' => e = .returned (.bool true) ∧ Below w.heap.size w w' := by
  have K1 := Lib.hid (fun w => bytes_kind k e b hk w)
  obtain ⟨w0, hw0⟩ : ∃ w0, w0 = w.alloc (.cells #[.int .i64 (k : Int), .int .u64 (e : Int), .string b] 51) := ⟨_, rfl⟩
  have hB : Below w.heap.size w w0 := by rw [hw0]; exact (Below.refl _ _).alloc (Nat.le_refl _) _
  have hlt : w.heap.size < w0.heap.size := by rw [hw0]; simp
  have hF : Fr w0 w.heap.size k e b := by rw [hw0]; exact Fr.new _ _ _ _
  have HB := Lib.hid hB
  have HF := Lib.hid hF
  have HLT := Lib.hid hlt
  clear hB hF hlt
  go_enter Try.func7, Try.ntmps7
  go_wp2_with fail
  rw [← hw0]
  clear hw0
  refine (awake8_any _).mono ?_
  rintro r w1 ⟨rfl, hb1⟩
  have HB1 := Lib.hid (HB.out.trans (hb1.mono HB.out.size))
  obtain ⟨c0, c1, c2⟩ := HF.out.below hb1 HLT.out
  clear hb1
  go_wp2_with fail
  refine (K1.out _).mono ?_
  rintro r w2 ⟨rfl, hb2⟩
  go_wp2
  go_ret
  exact ⟨rfl, HB1.out.trans (hb2.mono HB1.out.size)⟩
theorem turned_long (k : Int) (e : Nat) (b : ByteArray) (a y : Nat) (h1 : 1 ≤ k) (h2 : k ≤ 255) (hb : 8192 < b.size) (w : World) :
    Calls Try.prog 7 #[.agg #[.int .i64 k, .int .u64 e, .string b], .int .u16 a, .int .u32 y] w fun e w' => e = .returned (.bool true) ∧ Below w.heap.size w w' := by
  have K1 := Lib.hid (fun w => bytes_long k e b h1 h2 hb w)
  obtain ⟨w0, hw0⟩ : ∃ w0, w0 = w.alloc (.cells #[.int .i64 (k : Int), .int .u64 (e : Int), .string b] 51) := ⟨_, rfl⟩
  have hB : Below w.heap.size w w0 := by rw [hw0]; exact (Below.refl _ _).alloc (Nat.le_refl _) _
  have hlt : w.heap.size < w0.heap.size := by rw [hw0]; simp
  have hF : Fr w0 w.heap.size k e b := by rw [hw0]; exact Fr.new _ _ _ _
  have HB := Lib.hid hB
  have HF := Lib.hid hF
  have HLT := Lib.hid hlt
  clear hB hF hlt
  go_enter Try.func7, Try.ntmps7
  go_wp2_with fail
  rw [← hw0]
  clear hw0
  refine (awake8_any _).mono ?_
  rintro r w1 ⟨rfl, hb1⟩
  have HB1 := Lib.hid (HB.out.trans (hb1.mono HB.out.size))
  obtain ⟨c0, c1, c2⟩ := HF.out.below hb1 HLT.out
  clear hb1
  go_wp2_with fail
  refine (K1.out _).mono ?_
  rintro r w2 ⟨rfl, hb2⟩
  go_wp2
  go_ret
  exact ⟨rfl, HB1.out.trans (hb2.mono HB1.out.size)⟩
theorem turned_great (k : Nat) (e : Nat) (b : ByteArray) (a y : Nat) (h1 : 1 ≤ k) (h2 : k ≤ 255) (he : e ≤ 18446744073709551615) (hb : b.size ≤ 8192) (hb5 : 500 < b.size) (w : World) :
    Calls Try.prog 7 #[.agg #[.int .i64 k, .int .u64 e, .string b], .int .u16 a, .int .u32 y] w fun e w' => e = .returned (.bool true) ∧ Below w.heap.size w w' := by
  have K1 := Lib.hid (fun w => bytes_ok k e b h1 h2 he hb w)
  obtain ⟨w0, hw0⟩ : ∃ w0, w0 = w.alloc (.cells #[.int .i64 (k : Int), .int .u64 (e : Int), .string b] 51) := ⟨_, rfl⟩
  have hB : Below w.heap.size w w0 := by rw [hw0]; exact (Below.refl _ _).alloc (Nat.le_refl _) _
  have hlt : w.heap.size < w0.heap.size := by rw [hw0]; simp
  have hF : Fr w0 w.heap.size k e b := by rw [hw0]; exact Fr.new _ _ _ _
  have HB := Lib.hid hB
  have HF := Lib.hid hF
  have HLT := Lib.hid hlt
  clear hB hF hlt he
  go_enter Try.func7, Try.ntmps7
  go_wp2_with fail
  rw [← hw0]
  clear hw0
  refine (awake8_any _).mono ?_
  rintro r w1 ⟨rfl, hb1⟩
  have HB1 := Lib.hid (HB.out.trans (hb1.mono HB.out.size))
  have HF1 := Lib.hid (HF.out.below hb1 HLT.out)
  have HL1 := Lib.hid (Nat.lt_of_lt_of_le HLT.out hb1.size)
  obtain ⟨c0, c1, c2⟩ := HF1.out
  clear hb1
  go_wp2_with fail
  refine (K1.out _).mono ?_
  rintro r w2 ⟨rfl, hb2⟩
  have HB2 := Lib.hid (HB1.out.trans (hb2.mono HB1.out.size))
  clear c0 c1 c2
  obtain ⟨c0, c1, c2⟩ := HF1.out.below hb2 HL1.out
  clear hb2
  go_wp2
  go_ret
  exact ⟨rfl, HB2.out⟩
end Go.Proofs.Ytlochpnifjmefaa
