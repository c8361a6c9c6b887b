import Derived.Test.YtlochpnifjmefaaL
import Derived.Test.YtlochpnifjmefaaH
/- Walks of sum.CRC, sum.Quick. -/
namespace Go.Proofs.Ytlochpnifjmefaa
open Go.RowKit

/-- The bytes of parts, one behind the other. -/
def flat (ps : List ByteArray) : List UInt8 := ps.flatMap fun p => p.data.toList
/-- A slice of strings, by its cells. -/
def Parts (w : World) (g : Nat) (ps : List ByteArray) : Prop :=
  ∀ j, j < ps.length → w.cell? ⟨g, j, none⟩ = some (.string (ps.getD j ByteArray.empty))

theorem flat_snoc (ps : List ByteArray) (k : Nat) (h : k < ps.length) : flat (ps.take (k + 1)) = flat (ps.take k) ++ (ps.getD k ByteArray.empty).data.toList := by
  rw [List.take_succ_eq_append_getElem h]
  unfold flat
  rw [List.flatMap_append, List.flatMap_singleton, List.getD_eq_getElem?_getD, List.getElem?_eq_getElem h]
  rfl

/-- The register at the start of a sum. -/
def crc0 (l : List UInt8) : Nat := runN 4294967295 l
theorem crc0_lt (l : List UInt8) : crc0 l < 4294967296 := runN_lt l _ (by omega)

set_option maxHeartbeats 1000000 in
theorem crc_any (ps : List ByteArray) (g cap : Nat) (w : World) (hp : ps.length ≤ 1000) (hs : ∀ j, (ps.getD j ByteArray.empty).size ≤ 1000000000) (hc : Parts w g ps) :
    Calls Try.prog 62 #[.slice (some ⟨g, 0, none⟩) ps.length cap] w fun e w' => e = .returned (.int .u32 (4294967295 - crc0 (flat ps) : Nat)) ∧ w = w' := by
  have HS := Lib.hid hs
  have HC := Lib.hid hc
  clear hs hc
  obtain ⟨L, hL⟩ : ∃ L, L = ps.length := ⟨_, rfl⟩
  rw [← hL] at hp ⊢
  have HL := Lib.hid hL
  clear hL
  go_enter Try.func62, Try.ntmps62
  go_wp2
  go_loop [3, 9] (fun n i => ∃ k : Nat, k ≤ L ∧ i = .int .i64 k ∧ n = .int .u32 (crc0 (flat (ps.take k)))) (fun _ i => L - (intOf i).toNat)
  case atStart => exact ⟨0, Nat.zero_le _, rfl, rfl⟩
  case round =>
    obtain ⟨k, hk, rfl, rfl⟩ := hrel
    by_cases hlt : k < L
    · have hcell := HC.out k (by rw [← HL.out]; exact hlt)
      have hsz := HS.out k
      have hfl := flat_snoc ps k (by rw [← HL.out]; exact hlt)
      generalize flat (ps.take k) = F at *
      generalize ps.getD k ByteArray.empty = p at *
      have HF := Lib.hid hfl
      clear hfl
      go_wp2
      go_loop [3, 15] (fun n i => ∃ j : Nat, j ≤ p.size ∧ i = .int .i64 j ∧ n = .int .u32 (crc0 (F ++ p.data.toList.take j))) (fun _ i => p.size - (intOf i).toNat)
      case atStart => exact ⟨0, Nat.zero_le _, rfl, by simp⟩
      case round =>
        obtain ⟨j, hj, rfl, rfl⟩ := hrel
        by_cases hjl : j < p.size
        · have hst := step_any (crc0 (F ++ p.data.toList.take j)) p[j].toNat (crc0_lt _) p[j].toNat_lt w
          have e : stepN (crc0 (F ++ p.data.toList.take j)) p[j].toNat = crc0 (F ++ p.data.toList.take (j + 1)) := by
            rw [take_snoc p j hjl, ← List.append_assoc]
            unfold crc0
            rw [runN_snoc]
          rw [e] at hst
          have HST := Lib.hid hst
          clear hst e
          go_wp2_with (go_at_call 66; go_must (refine (HST.out).mono ?_); rintro e w1 ⟨rfl, rfl⟩)
          go_round
          case rel => exact ⟨j + 1, by omega, by go_num, rfl⟩
          case measure => simp [intOf]; omega
        · go_wp2
          go_round
          case rel =>
            refine ⟨k + 1, by omega, by go_num, ?_⟩
            have e : j = p.size := by omega
            subst e
            rw [HF.out, List.take_of_length_le (by simp)]
          case measure => simp [intOf]; omega
    · go_wp2
      go_ret
      refine ⟨?_, rfl⟩
      have e : k = L := by omega
      subst e
      rw [List.take_of_length_le (by rw [← HL.out]; exact Nat.le_refl _)]
      have h := u32_xor_nat 4294967295 (crc0 (flat ps)) (by omega) (crc0_lt _)
      rw [not32 _ (crc0_lt _)] at h
      exact congrArg (fun x => Ending.returned (.int .u32 x)) h
end Go.Proofs.Ytlochpnifjmefaa
