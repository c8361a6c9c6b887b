/- YtlochpnifjmefaaN; YtlochpnifjmefaaE -/
import Derived.Test.YtlochpnifjmefaaJ04
import Derived.Test.YtlochpnifjmefaaJ00
import Derived.Test.YtlochpnifjmefaaJ01
set_option linter.unusedVariables false
set_option linter.unusedSimpArgs false
namespace Go.Proofs.Ytlochpnifjmefaa
open Go.RowKit

theorem xor_spell (n c : Nat) (hn : n < 4294967296) (hc : c < 256) : bits BinOp.xor IntKind.u32 (n : Int) ((c : Int) % 4294967296) = ((n ^^^ c : Nat) : Int) := by
  rw [show (c : Int) % 4294967296 = c by omega, u32_xor_nat n c hn (by omega)]
theorem bit_odd' (m : Nat) (h : m < 4294967296) (ho : m % 2 = 1) : (m : Int) % 2 = 1 ∧ bits BinOp.xor IntKind.u32 ((m : Int) / 2 % 4294967296) 2197175160 = (bit m : Int) := ⟨by omega, by rw [show (m : Int) / 2 % 4294967296 = (m : Int) / 2 by omega]; exact (bit_odd m h ho).2⟩
theorem bit_even' (m : Nat) (h : m < 4294967296) (ho : ¬ m % 2 = 1) : (m : Int) % 2 = 0 ∧ (m : Int) / 2 % 4294967296 = (bit m : Int) := ⟨by omega, by rw [show (m : Int) / 2 % 4294967296 = (m : Int) / 2 by omega]; exact (bit_even m h ho).2⟩

set_option maxHeartbeats 1000000 in
theorem rcrc_any (p : ByteArray) (w : World) (hp : p.size ≤ 1000000000) :
    Calls Try.prog 58 #[.string p] w fun e w' => e = .returned (.int .u32 (4294967295 - crc0 p.data.toList : Nat)) ∧ w = w' := by
  go_enter Try.func58, Try.ntmps58
  go_wp2
  go_loop [3, 4] (fun n i => ∃ j : Nat, j ≤ p.size ∧ i = .int .i64 j ∧ n = .int .u32 (crc0 (p.data.toList.take j))) (fun _ i => p.size - (intOf i).toNat)
  case atStart => exact ⟨0, Nat.zero_le _, rfl, rfl⟩
  case round =>
    obtain ⟨j, hj, rfl, rfl⟩ := hrel
    by_cases hjl : j < p.size
    · have hxr := xor_spell (crc0 (p.data.toList.take j)) p[j].toNat (crc0_lt _) p[j].toNat_lt
      have hm0 := xor_lt (crc0 (p.data.toList.take j)) p[j].toNat (crc0_lt _) (by have := p[j].toNat_lt; omega)
      have e : bitN 8 (crc0 (p.data.toList.take j) ^^^ p[j].toNat) = crc0 (p.data.toList.take (j + 1)) := by
        rw [take_snoc p j hjl]
        unfold crc0
        rw [runN_snoc]; rfl
      generalize crc0 (p.data.toList.take j) ^^^ p[j].toNat = m0 at *
      have HE := Lib.hid e
      have HM0 := Lib.hid hm0
      clear e hm0
      go_wp2
      go_loop [3, 5] (fun n i => ∃ k m : Nat, k ≤ 8 ∧ i = .int .i64 k ∧ n = .int .u32 m ∧ m < 4294967296 ∧ bitN (8 - k) m = crc0 (p.data.toList.take (j + 1))) (fun _ i => 8 - (intOf i).toNat)
      case atStart => exact ⟨0, _, Nat.zero_le _, rfl, rfl, HM0.out, HE.out⟩
      case round =>
        obtain ⟨k, m, hk, rfl, rfl, hm, hb⟩ := hrel
        have HB := Lib.hid hb
        have HM := Lib.hid hm
        clear hb
        by_cases hk8 : k < 8
        · by_cases ho : m % 2 = 1
          · obtain ⟨f1, f2⟩ := bit_odd' m hm ho
            clear ho hm
            go_wp2
            go_round
            case rel => exact ⟨k + 1, bit m, by omega, by go_num, rfl, bit_lt m HM.out, by rw [← HB.out, show 8 - k = (8 - (k + 1)) + 1 by omega]; rfl⟩
            case measure => simp [intOf]; omega
          · obtain ⟨f1, f2⟩ := bit_even' m hm ho
            clear ho hm
            go_wp2
            go_round
            case rel => exact ⟨k + 1, bit m, by omega, by go_num, by rw [f2], bit_lt m HM.out, by rw [← HB.out, show 8 - k = (8 - (k + 1)) + 1 by omega]; rfl⟩
            case measure => simp [intOf]; omega
        · clear hm
          go_wp2
          go_round
          case rel =>
            refine ⟨j + 1, by omega, by go_num, ?_⟩
            rw [← HB.out, show 8 - k = 0 by omega]; rfl
          case measure => simp [intOf]; omega
    · go_wp2
      go_ret
      refine ⟨?_, rfl⟩
      have e : j = p.size := by omega
      subst e
      rw [List.take_of_length_le (by simp)]
      have hl := crc0_lt p.data.toList
      have h : (4294967295 - (crc0 p.data.toList : Int)) % 4294967296 = ((4294967295 - crc0 p.data.toList : Nat) : Int) := by omega
      exact congrArg (fun x => Ending.returned (.int .u32 x)) h

end Go.Proofs.Ytlochpnifjmefaa

namespace Go.Proofs.Ytlochpnifjmefaa
open Go.RowKit

theorem toList_str (l : List UInt8) : (str l).toList = l := ByteArray.toList_mk l

theorem awake_any (w : World) : Calls Try.prog 48 #[] w fun e w' => e = .returned (.bool true) ∧ Below w.heap.size w w' := by
  have h1 : (str (sh 300)).toList = [172, 2] := by
    rw [toList_str, sh_more 300 (by omega), sh_last _ (by omega)]
    rfl
  have h2 : ((str (be 258 (clip 2))).toList == [1, 2]) = true := by
    rw [toList_str]
    rfl
  go_enter Try.func48, Try.ntmps48
  go_wp2_with (first
    | (go_at_call 49; go_must (refine (short_any 300 (by omega) _).mono ?_); rintro e w1 ⟨rfl, hb1⟩)
    | (go_at_call 42; go_must (refine (put_any 258 2 (by omega) _).mono ?_); rintro e w2 ⟨rfl, hb2⟩))
  go_ret
  exact ⟨rfl, hb1.trans (hb2.mono hb1.size)⟩

theorem awake1_any (w : World) : Calls Try.prog 31 #[] w fun e w' => e = .returned (.bool true) ∧ Below w.heap.size w w' := by
  go_enter Try.func31, Try.ntmps31
  go_wp2_with (first
    | (go_at_call 48; go_must (refine (awake_any _).mono ?_); rintro e w1 ⟨rfl, hb1⟩))
  go_ret
  exact ⟨rfl, hb1⟩
end Go.Proofs.Ytlochpnifjmefaa
