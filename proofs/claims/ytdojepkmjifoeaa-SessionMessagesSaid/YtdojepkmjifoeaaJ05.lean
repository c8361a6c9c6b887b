/- YtdojepkmjifoeaaM; YtdojepkmjifoeaaN; YtdojepkmjifoeaaE -/
import Derived.Test.YtdojepkmjifoeaaJ04
import Derived.Test.YtdojepkmjifoeaaJ00
set_option linter.unusedVariables false
set_option linter.unusedSimpArgs false
namespace Go.Proofs.Ytdojepkmjifoeaa
open Go.RowKit

/-- The bytes of parts, one behind the other. -/
def flat (ps : List ByteArray) : List UInt8 := ps.flatMap fun p => p.data.toList
/-- A slice of strings, by its cells. -/
def Parts (w : World) (g : Nat) (ps : List ByteArray) : Prop :=
  ∀ j, j < ps.length → w.cell? ⟨g, j, none⟩ = some (.string (ps.getD j ByteArray.empty))

theorem flat_snoc (ps : List ByteArray) (k : Nat) (h : k < ps.length) : flat (ps.take (k + 1)) = flat (ps.take k) ++ (ps.getD k ByteArray.empty).data.toList := by
  rw [List.take_succ_eq_append_getElem h]
  unfold flat
  rw [List.flatMap_append, List.flatMap_singleton, List.getD_eq_getElem?_getD, List.getElem?_eq_getElem h]
  rfl

/-- The register at the start of a sum. -/
def crc0 (l : List UInt8) : Nat := runN 4294967295 l
theorem crc0_lt (l : List UInt8) : crc0 l < 4294967296 := runN_lt l _ (by omega)

set_option maxHeartbeats 1000000 in
theorem crc_any (ps : List ByteArray) (g cap : Nat) (w : World) (hp : ps.length ≤ 1000) (hs : ∀ j, (ps.getD j ByteArray.empty).size ≤ 1000000000) (hc : Parts w g ps) :
    Calls Try.prog 82 #[.slice (some ⟨g, 0, none⟩) ps.length cap] w fun e w' => e = .returned (.int .u32 (4294967295 - crc0 (flat ps) : Nat)) ∧ w = w' := by
  have HS := Lib.hid hs
  have HC := Lib.hid hc
  clear hs hc
  obtain ⟨L, hL⟩ : ∃ L, L = ps.length := ⟨_, rfl⟩
  rw [← hL] at hp ⊢
  have HL := Lib.hid hL
  clear hL
  go_enter Try.func82, Try.ntmps82
  go_wp2
  go_loop [3, 9] (fun n i => ∃ k : Nat, k ≤ L ∧ i = .int .i64 k ∧ n = .int .u32 (crc0 (flat (ps.take k)))) (fun _ i => L - (intOf i).toNat)
  case atStart => exact ⟨0, Nat.zero_le _, rfl, rfl⟩
  case round =>
    obtain ⟨k, hk, rfl, rfl⟩ := hrel
    by_cases hlt : k < L
    · have hcell := HC.out k (by rw [← HL.out]; exact hlt)
      have hsz := HS.out k
      have hfl := flat_snoc ps k (by rw [← HL.out]; exact hlt)
      generalize flat (ps.take k) = F at *
      generalize ps.getD k ByteArray.empty = p at *
      have HF := Lib.hid hfl
      clear hfl
      go_wp2
      go_loop [3, 15] (fun n i => ∃ j : Nat, j ≤ p.size ∧ i = .int .i64 j ∧ n = .int .u32 (crc0 (F ++ p.data.toList.take j))) (fun _ i => p.size - (intOf i).toNat)
      case atStart => exact ⟨0, Nat.zero_le _, rfl, by simp⟩
      case round =>
        obtain ⟨j, hj, rfl, rfl⟩ := hrel
        by_cases hjl : j < p.size
        · have hst := step_any (crc0 (F ++ p.data.toList.take j)) p[j].toNat (crc0_lt _) p[j].toNat_lt w
          have e : stepN (crc0 (F ++ p.data.toList.take j)) p[j].toNat = crc0 (F ++ p.data.toList.take (j + 1)) := by
            rw [take_snoc p j hjl, ← List.append_assoc]
            unfold crc0
            rw [runN_snoc]
          rw [e] at hst
          have HST := Lib.hid hst
          clear hst e
          go_wp2_with (go_at_call 85; go_must (refine (HST.out).mono ?_); rintro e w1 ⟨rfl, rfl⟩)
          go_round
          case rel => exact ⟨j + 1, by omega, by go_num, rfl⟩
          case measure => simp [intOf]; omega
        · go_wp2
          go_round
          case rel =>
            refine ⟨k + 1, by omega, by go_num, ?_⟩
            have e : j = p.size := by omega
            subst e
            rw [HF.out, List.take_of_length_le (by simp)]
          case measure => simp [intOf]; omega
    · go_wp2
      go_ret
      refine ⟨?_, rfl⟩
      have e : k = L := by omega
      subst e
      rw [List.take_of_length_le (by rw [← HL.out]; exact Nat.le_refl _)]
      have h := u32_xor_nat 4294967295 (crc0 (flat ps)) (by omega) (crc0_lt _)
      rw [not32 _ (crc0_lt _)] at h
      exact congrArg (fun x => Ending.returned (.int .u32 x)) h
end Go.Proofs.Ytdojepkmjifoeaa

namespace Go.Proofs.Ytdojepkmjifoeaa
open Go.RowKit

theorem xor_spell (n c : Nat) (hn : n < 4294967296) (hc : c < 256) : bits BinOp.xor IntKind.u32 (n : Int) ((c : Int) % 4294967296) = ((n ^^^ c : Nat) : Int) := by
  rw [show (c : Int) % 4294967296 = c by omega, u32_xor_nat n c hn (by omega)]
theorem bit_odd' (m : Nat) (h : m < 4294967296) (ho : m % 2 = 1) : (m : Int) % 2 = 1 ∧ bits BinOp.xor IntKind.u32 ((m : Int) / 2 % 4294967296) 2197175160 = (bit m : Int) := ⟨by omega, by rw [show (m : Int) / 2 % 4294967296 = (m : Int) / 2 by omega]; exact (bit_odd m h ho).2⟩
theorem bit_even' (m : Nat) (h : m < 4294967296) (ho : ¬ m % 2 = 1) : (m : Int) % 2 = 0 ∧ (m : Int) / 2 % 4294967296 = (bit m : Int) := ⟨by omega, by rw [show (m : Int) / 2 % 4294967296 = (m : Int) / 2 by omega]; exact (bit_even m h ho).2⟩

set_option maxHeartbeats 1000000 in
theorem rcrc_any (p : ByteArray) (w : World) (hp : p.size ≤ 1000000000) :
    Calls Try.prog 67 #[.string p] w fun e w' => e = .returned (.int .u32 (4294967295 - crc0 p.data.toList : Nat)) ∧ w = w' := by
  go_enter Try.func67, Try.ntmps67
  go_wp2
  go_loop [3, 4] (fun n i => ∃ j : Nat, j ≤ p.size ∧ i = .int .i64 j ∧ n = .int .u32 (crc0 (p.data.toList.take j))) (fun _ i => p.size - (intOf i).toNat)
  case atStart => exact ⟨0, Nat.zero_le _, rfl, rfl⟩
  case round =>
    obtain ⟨j, hj, rfl, rfl⟩ := hrel
    by_cases hjl : j < p.size
    · have hxr := xor_spell (crc0 (p.data.toList.take j)) p[j].toNat (crc0_lt _) p[j].toNat_lt
      have hm0 := xor_lt (crc0 (p.data.toList.take j)) p[j].toNat (crc0_lt _) (by have := p[j].toNat_lt; omega)
      have e : bitN 8 (crc0 (p.data.toList.take j) ^^^ p[j].toNat) = crc0 (p.data.toList.take (j + 1)) := by
        rw [take_snoc p j hjl]
        unfold crc0
        rw [runN_snoc]; rfl
      generalize crc0 (p.data.toList.take j) ^^^ p[j].toNat = m0 at *
      have HE := Lib.hid e
      have HM0 := Lib.hid hm0
      clear e hm0
      go_wp2
      go_loop [3, 5] (fun n i => ∃ k m : Nat, k ≤ 8 ∧ i = .int .i64 k ∧ n = .int .u32 m ∧ m < 4294967296 ∧ bitN (8 - k) m = crc0 (p.data.toList.take (j + 1))) (fun _ i => 8 - (intOf i).toNat)
      case atStart => exact ⟨0, _, Nat.zero_le _, rfl, rfl, HM0.out, HE.out⟩
      case round =>
        obtain ⟨k, m, hk, rfl, rfl, hm, hb⟩ := hrel
        have HB := Lib.hid hb
        have HM := Lib.hid hm
        clear hb
        by_cases hk8 : k < 8
        · by_cases ho : m % 2 = 1
          · obtain ⟨f1, f2⟩ := bit_odd' m hm ho
            clear ho hm
            go_wp2
            go_round
            case rel => exact ⟨k + 1, bit m, by omega, by go_num, rfl, bit_lt m HM.out, by rw [← HB.out, show 8 - k = (8 - (k + 1)) + 1 by omega]; rfl⟩
            case measure => simp [intOf]; omega
          · obtain ⟨f1, f2⟩ := bit_even' m hm ho
            clear ho hm
            go_wp2
            go_round
            case rel => exact ⟨k + 1, bit m, by omega, by go_num, by rw [f2], bit_lt m HM.out, by rw [← HB.out, show 8 - k = (8 - (k + 1)) + 1 by omega]; rfl⟩
            case measure => simp [intOf]; omega
        · clear hm
          go_wp2
          go_round
          case rel =>
            refine ⟨j + 1, by omega, by go_num, ?_⟩
            rw [← HB.out, show 8 - k = 0 by omega]; rfl
          case measure => simp [intOf]; omega
    · go_wp2
      go_ret
      refine ⟨?_, rfl⟩
      have e : j = p.size := by omega
      subst e
      rw [List.take_of_length_le (by simp)]
      have hl := crc0_lt p.data.toList
      have h : (4294967295 - (crc0 p.data.toList : Int)) % 4294967296 = ((4294967295 - crc0 p.data.toList : Nat) : Int) := by omega
      exact congrArg (fun x => Ending.returned (.int .u32 x)) h

end Go.Proofs.Ytdojepkmjifoeaa

namespace Go.Proofs.Ytdojepkmjifoeaa
open Go.RowKit

theorem toList_str (l : List UInt8) : (str l).toList = l := ByteArray.toList_mk l

theorem awake_any (w : World) : Calls Try.prog 78 #[] w fun e w' => e = .returned (.bool true) ∧ Below w.heap.size w w' := by
  have h1 : (str (sh 300)).toList = [172, 2] := by
    rw [toList_str, sh_more 300 (by omega), sh_last _ (by omega)]
    rfl
  have h2 : ((str (be 258 (clip 2))).toList == [1, 2]) = true := by
    rw [toList_str]
    rfl
  go_enter Try.func78, Try.ntmps78
  go_wp2_with (first
    | (go_at_call 80; go_must (refine (short_any 300 (by omega) _).mono ?_); rintro e w1 ⟨rfl, hb1⟩)
    | (go_at_call 42; go_must (refine (put_any 258 2 (by omega) _).mono ?_); rintro e w2 ⟨rfl, hb2⟩))
  go_ret
  exact ⟨rfl, hb1.trans (hb2.mono hb1.size)⟩

theorem awake1_any (w : World) : Calls Try.prog 58 #[] w fun e w' => e = .returned (.bool true) ∧ Below w.heap.size w w' := by
  go_enter Try.func58, Try.ntmps58
  go_wp2_with (first
    | (go_at_call 78; go_must (refine (awake_any _).mono ?_); rintro e w1 ⟨rfl, hb1⟩))
  go_ret
  exact ⟨rfl, hb1⟩
end Go.Proofs.Ytdojepkmjifoeaa
