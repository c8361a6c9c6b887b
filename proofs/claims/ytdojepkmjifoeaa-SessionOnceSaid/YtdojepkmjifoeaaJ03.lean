/- YtdojepkmjifoeaaL; YtdojepkmjifoeaaH; YtdojepkmjifoeaaM -/
import Derived.Test.YtdojepkmjifoeaaJ00
import Derived.Test.YtdojepkmjifoeaaJ02
set_option linter.unusedVariables false
set_option linter.unusedSimpArgs false
namespace Go.Proofs.Ytdojepkmjifoeaa
open Go.RowKit

theorem and1_32 (m : Nat) (h : m < 4294967296) : bits BinOp.and IntKind.u32 (m : Int) 1 = ((m % 2 : Nat) : Int) := by
  have := u32_and_nat m 1 h (by omega)
  rw [nat_mask1] at this
  exact this
theorem xor_poly (m : Nat) (h : m < 4294967296) : bits BinOp.xor IntKind.u32 ((m : Int) / 2) 2197175160 = ((m / 2 ^^^ poly : Nat) : Int) := by
  have := u32_xor_nat (m / 2) 2197175160 (by omega) (by omega)
  unfold poly
  simpa using this
theorem bit_odd (m : Nat) (h : m < 4294967296) (ho : m % 2 = 1) : bits BinOp.and IntKind.u32 (m : Int) 1 = 1 ∧ bits BinOp.xor IntKind.u32 ((m : Int) / 2) 2197175160 = (bit m : Int) := by
  rw [and1_32 m h, xor_poly m h, ho]
  refine ⟨rfl, ?_⟩
  unfold bit; rw [if_pos ho]
theorem bit_even (m : Nat) (h : m < 4294967296) (ho : ¬ m % 2 = 1) : bits BinOp.and IntKind.u32 (m : Int) 1 = 0 ∧ (m : Int) / 2 = (bit m : Int) := by
  rw [and1_32 m h, show m % 2 = 0 by omega]
  refine ⟨rfl, ?_⟩
  unfold bit; rw [if_neg ho]; simp

/-- What holds at each jump back. -/
def StepJ (N c : Nat) (w : World) (a' : Act) (w' : World) : Prop :=
  w = w' ∧ ∃ (m i : Nat) (u2 u3 u4 u6 u7 u8 u9 u10 u11 u12 u13 u14 u15 u16 u17 u18 u19 u20 u21 u22 : Value), a' = { tmps := #[.int .u32 m, .int .u8 c, u2, u3, u4, .int .i64 i, u6, u7, u8, u9, u10, u11, u12, u13, u14, u15, u16, u17, u18, u19, u20, u21, u22], defers := [] } ∧ m < 4294967296 ∧ i ≤ 7 ∧ bitN (8 - i) m = N

set_option maxRecDepth 1000000 in
theorem step_any (n c : Nat) (hn : n < 4294967296) (hc : c < 256) (w : World) :
    Calls Try.prog 85 #[.int .u32 n, .int .u8 c] w fun e w' => e = .returned (.int .u32 (stepN n c)) ∧ w = w' := by
  have hx : bits BinOp.xor IntKind.u32 (n : Int) (c : Int) = ((n ^^^ c : Nat) : Int) := u32_xor_nat n c hn (by omega)
  have hm0 := xor_lt n c hn (by omega)
  obtain ⟨N, hN⟩ : ∃ N, N = stepN n c := ⟨_, rfl⟩
  obtain ⟨m, hm⟩ : ∃ m, m = n ^^^ c := ⟨_, rfl⟩
  have hbn : bitN 8 m = N := by rw [hN, hm]; rfl
  rw [← hm] at hx hm0
  rw [← hN]
  have HM0 := Lib.hid hm0
  have HB := Lib.hid hbn
  clear hN hm hm0 hbn hn
  go_enter Try.func85, Try.ntmps85
  go_wp2
  refine wp_scope_jumps 0 (StepJ N c w) (fun a' _ => (8 - (intOf (a'.tmps.getD 5 undef))).toNat) rfl ?_ ?_
  · by_cases ho : m % 2 = 1
    · obtain ⟨f1, f2⟩ := bit_odd m HM0.out ho
      have HO := Lib.hid ho
      clear ho
      go_wp2
      go_step3
      go_wp2
      go_step3
      exact ⟨rfl, rfl, bit m, 1, _, _, _, _, _, _, _, _, _, _, _, _, _, _, _, _, _, _, _, _, rfl, bit_lt m HM0.out, by omega, HB.out⟩
    · obtain ⟨f1, f2⟩ := bit_even m HM0.out ho
      have HO := Lib.hid ho
      clear ho
      go_wp2
      go_step3
      go_wp2
      go_step3
      exact ⟨rfl, rfl, bit m, 1, _, _, _, _, _, _, _, _, _, _, _, _, _, _, _, _, _, _, _, _, rfl, bit_lt m HM0.out, by omega, HB.out⟩
  · rintro a' w' ⟨rfl, m, i, u2, u3, u4, u6, u7, u8, u9, u10, u11, u12, u13, u14, u15, u16, u17, u18, u19, u20, u21, u22, rfl, hm, hi, hbi⟩
    by_cases ho : m % 2 = 1
    · obtain ⟨f1, f2⟩ := bit_odd m hm ho
      have HM := Lib.hid hm
      have HI := Lib.hid hbi
      clear ho hm hbi
      by_cases h7 : i < 7
      · go_wp2
        go_step3
        refine ⟨rfl, ⟨rfl, bit m, i + 1, _, _, _, _, _, _, _, _, _, _, _, _, _, _, _, _, _, _, _, _, rfl, bit_lt m HM.out, by omega, ?_⟩, ?_⟩
        · rw [← HI.out, show 8 - i = (8 - (i + 1)) + 1 by omega]; rfl
        · simp [intOf]; omega
      · go_wp2
        simp only [Exit.jump]
        go_ret
        refine ⟨?_, rfl⟩
        rw [← HI.out, show 8 - i = 0 + 1 by omega]; rfl
    · obtain ⟨f1, f2⟩ := bit_even m hm ho
      have HM := Lib.hid hm
      have HI := Lib.hid hbi
      clear ho hm hbi
      by_cases h7 : i < 7
      · go_wp2
        go_step3
        refine ⟨rfl, ⟨rfl, bit m, i + 1, _, _, _, _, _, _, _, _, _, _, _, _, _, _, _, _, _, _, _, _, rfl, bit_lt m HM.out, by omega, ?_⟩, ?_⟩
        · rw [← HI.out, show 8 - i = (8 - (i + 1)) + 1 by omega]; rfl
        · simp [intOf]; omega
      · go_wp2
        simp only [Exit.jump]
        go_ret
        refine ⟨?_, rfl⟩
        rw [← HI.out, show 8 - i = 0 + 1 by omega]; rfl
end Go.Proofs.Ytdojepkmjifoeaa

namespace Go.Proofs.Ytdojepkmjifoeaa
open Go.RowKit

/-- The number of a list of bytes, the highest first. -/
def gt (l : List UInt8) : Nat := l.foldl (fun n c => n * 256 + c.toNat) 0
theorem gt_snoc (l : List UInt8) (c : UInt8) : gt (l ++ [c]) = gt l * 256 + c.toNat := by simp [gt]
theorem gt_from (l : List UInt8) : ∀ a : Nat, l.foldl (fun n c => n * 256 + c.toNat) a = a * 256 ^ l.length + gt l := by
  induction l with
  | nil => intro a; simp [gt]
  | cons c l ih =>
    intro a
    have e : gt (c :: l) = c.toNat * 256 ^ l.length + gt l := by
      have := ih (0 * 256 + c.toNat)
      simp only [gt, List.foldl_cons] at *
      rw [this]; simp
    rw [List.foldl_cons, ih, e, List.length_cons, Nat.pow_succ, Nat.add_mul]
    rw [Nat.mul_assoc, Nat.mul_comm 256 (256 ^ l.length), Nat.add_assoc]
theorem gt_cons (c : UInt8) (l : List UInt8) : gt (c :: l) = c.toNat * 256 ^ l.length + gt l := by
  have := gt_from l (0 * 256 + c.toNat)
  simp only [gt, List.foldl_cons] at *
  rw [this]; simp
theorem gt_lt (l : List UInt8) : gt l < 256 ^ l.length := by
  induction l with
  | nil => simp [gt]
  | cons c l ih =>
    rw [gt_cons, List.length_cons, Nat.pow_succ]
    have h := c.toNat_lt
    have h2 : c.toNat * 256 ^ l.length ≤ 255 * 256 ^ l.length := Nat.mul_le_mul_right _ (by omega)
    omega

theorem take_snoc (s : ByteArray) (k : Nat) (h : k < s.size) : s.data.toList.take (k + 1) = s.data.toList.take k ++ [s[k]] := by
  rw [List.take_succ_eq_append_getElem (by simpa using h)]; rfl

theorem gt_room (s : ByteArray) (k : Nat) (h : k < s.size) (hm : s.size ≤ 8) : gt (s.data.toList.take k) < 72057594037927936 ∧ gt (s.data.toList.take (k + 1)) = gt (s.data.toList.take k) * 256 + s[k].toNat := by
  have h1 := gt_lt (s.data.toList.take k)
  have h2 : (s.data.toList.take k).length ≤ 7 := by
    have := List.length_take_le k s.data.toList
    omega
  have h3 : 256 ^ (s.data.toList.take k).length ≤ 256 ^ 7 := Nat.pow_le_pow_right (by omega) h2
  refine ⟨by omega, ?_⟩
  rw [take_snoc s k h, gt_snoc]

theorem get_step (s : ByteArray) (k : Nat) (h : k < s.size) (hm : s.size ≤ 8) :
    bits BinOp.or IntKind.u64 (IntKind.u64.wrap ((gt (s.data.toList.take k) : Int) * 256)) (IntKind.u64.wrap (s[k].toNat : Int)) = ((gt (s.data.toList.take (k + 1)) : Nat) : Int) := by
  obtain ⟨h1, h2⟩ := gt_room s k h hm
  have h3 := s[k].toNat_lt
  rw [h2]
  generalize gt (s.data.toList.take k) = g at *
  generalize s[k].toNat = c at *
  rw [IntWalk.u64_in _ ⟨by omega, by omega⟩, IntWalk.u64_in _ ⟨by omega, by omega⟩]
  have := u64_or_nat (g * 256) c (by omega) (by omega)
  rw [nat_join 8 (g * 256) c (by omega) (by omega)] at this
  simpa using this

theorem rget_step (s : ByteArray) (k : Nat) (h : k < s.size) (hm : s.size ≤ 8) :
    IntKind.u64.wrap (IntKind.u64.wrap ((gt (s.data.toList.take k) : Int) * 256) + IntKind.u64.wrap (s[k].toNat : Int)) = ((gt (s.data.toList.take (k + 1)) : Nat) : Int) := by
  obtain ⟨h1, h2⟩ := gt_room s k h hm
  have h3 := s[k].toNat_lt
  rw [h2]
  generalize gt (s.data.toList.take k) = g at *
  generalize s[k].toNat = c at *
  rw [IntWalk.u64_in (g * 256 : Int) ⟨by omega, by omega⟩, IntWalk.u64_in (c : Int) ⟨by omega, by omega⟩, IntWalk.u64_in _ ⟨by omega, by omega⟩]
  omega

theorem get_short (s : ByteArray) (hs : s.size = 0) (w : World) : Calls Try.prog 84 #[.string s] w fun e w' => e = .returned (.tuple #[.int .u64 0, .int .i64 3]) ∧ w = w' := by
  go_enter Try.func84, Try.ntmps84
  go_wp2
  go_ret2
  exact ⟨rfl, rfl⟩

theorem get_long (s : ByteArray) (hs : 8 < s.size) (hm : s.size ≤ 100) (w : World) : Calls Try.prog 84 #[.string s] w fun e w' => e = .returned (.tuple #[.int .u64 0, .int .i64 5]) ∧ w = w' := by
  go_enter Try.func84, Try.ntmps84
  go_wp2
  go_ret2
  exact ⟨rfl, rfl⟩

theorem get_ok (s : ByteArray) (hs : 1 ≤ s.size) (hm : s.size ≤ 8) (w : World) : Calls Try.prog 84 #[.string s] w fun e w' => e = .returned (.tuple #[.int .u64 (gt s.data.toList), .int .i64 0]) ∧ w = w' := by
  go_enter Try.func84, Try.ntmps84
  go_wp2
  go_loop [4, 14] (fun n i => ∃ k : Nat, k ≤ s.size ∧ i = .int .i64 k ∧ n = .int .u64 (gt (s.data.toList.take k))) (fun _ i => s.size - (intOf i).toNat)
  case atStart => exact ⟨0, Nat.zero_le _, rfl, rfl⟩
  case round =>
    obtain ⟨k, hk, rfl, rfl⟩ := hrel
    by_cases hlt : k < s.size
    · have HS := Lib.hid (get_step s k hlt hm)
      go_wp2
      go_round
      case rel => exact ⟨k + 1, by omega, by go_num, by rw [← HS.out]⟩
      case measure => simp [intOf]; omega
    · go_wp2
      go_ret2
      have e : k = s.size := by omega
      subst e
      refine ⟨?_, rfl⟩
      rw [List.take_of_length_le (by simp)]
      rfl

theorem rget_ok (s : ByteArray) (hm : s.size ≤ 8) (w : World) : Calls Try.prog 51 #[.string s] w fun e w' => e = .returned (.int .u64 (gt s.data.toList)) ∧ w = w' := by
  go_enter Try.func51, Try.ntmps51
  go_wp2
  go_loop [3, 4] (fun n i => ∃ k : Nat, k ≤ s.size ∧ i = .int .i64 k ∧ n = .int .u64 (gt (s.data.toList.take k))) (fun _ i => s.size - (intOf i).toNat)
  case atStart => exact ⟨0, Nat.zero_le _, rfl, rfl⟩
  case round =>
    obtain ⟨k, hk, rfl, rfl⟩ := hrel
    by_cases hlt : k < s.size
    · have HS := Lib.hid (rget_step s k hlt hm)
      go_wp2
      go_round
      case rel => exact ⟨k + 1, by omega, by go_num, by rw [← HS.out]⟩
      case measure => simp [intOf]; omega
    · go_wp2
      go_ret
      have e : k = s.size := by omega
      subst e
      refine ⟨?_, rfl⟩
      rw [List.take_of_length_le (by simp)]
      rfl
end Go.Proofs.Ytdojepkmjifoeaa

namespace Go.Proofs.Ytdojepkmjifoeaa
open Go.RowKit

/-- The bytes of parts, one behind the other. -/
def flat (ps : List ByteArray) : List UInt8 := ps.flatMap fun p => p.data.toList
/-- A slice of strings, by its cells. -/
def Parts (w : World) (g : Nat) (ps : List ByteArray) : Prop :=
  ∀ j, j < ps.length → w.cell? ⟨g, j, none⟩ = some (.string (ps.getD j ByteArray.empty))

theorem flat_snoc (ps : List ByteArray) (k : Nat) (h : k < ps.length) : flat (ps.take (k + 1)) = flat (ps.take k) ++ (ps.getD k ByteArray.empty).data.toList := by
  rw [List.take_succ_eq_append_getElem h]
  unfold flat
  rw [List.flatMap_append, List.flatMap_singleton, List.getD_eq_getElem?_getD, List.getElem?_eq_getElem h]
  rfl

/-- The register at the start of a sum. -/
def crc0 (l : List UInt8) : Nat := runN 4294967295 l
theorem crc0_lt (l : List UInt8) : crc0 l < 4294967296 := runN_lt l _ (by omega)

set_option maxHeartbeats 1000000 in
theorem crc_any (ps : List ByteArray) (g cap : Nat) (w : World) (hp : ps.length ≤ 1000) (hs : ∀ j, (ps.getD j ByteArray.empty).size ≤ 1000000000) (hc : Parts w g ps) :
    Calls Try.prog 82 #[.slice (some ⟨g, 0, none⟩) ps.length cap] w fun e w' => e = .returned (.int .u32 (4294967295 - crc0 (flat ps) : Nat)) ∧ w = w' := by
  have HS := Lib.hid hs
  have HC := Lib.hid hc
  clear hs hc
  obtain ⟨L, hL⟩ : ∃ L, L = ps.length := ⟨_, rfl⟩
  rw [← hL] at hp ⊢
  have HL := Lib.hid hL
  clear hL
  go_enter Try.func82, Try.ntmps82
  go_wp2
  go_loop [3, 9] (fun n i => ∃ k : Nat, k ≤ L ∧ i = .int .i64 k ∧ n = .int .u32 (crc0 (flat (ps.take k)))) (fun _ i => L - (intOf i).toNat)
  case atStart => exact ⟨0, Nat.zero_le _, rfl, rfl⟩
  case round =>
    obtain ⟨k, hk, rfl, rfl⟩ := hrel
    by_cases hlt : k < L
    · have hcell := HC.out k (by rw [← HL.out]; exact hlt)
      have hsz := HS.out k
      have hfl := flat_snoc ps k (by rw [← HL.out]; exact hlt)
      generalize flat (ps.take k) = F at *
      generalize ps.getD k ByteArray.empty = p at *
      have HF := Lib.hid hfl
      clear hfl
      go_wp2
      go_loop [3, 15] (fun n i => ∃ j : Nat, j ≤ p.size ∧ i = .int .i64 j ∧ n = .int .u32 (crc0 (F ++ p.data.toList.take j))) (fun _ i => p.size - (intOf i).toNat)
      case atStart => exact ⟨0, Nat.zero_le _, rfl, by simp⟩
      case round =>
        obtain ⟨j, hj, rfl, rfl⟩ := hrel
        by_cases hjl : j < p.size
        · have hst := step_any (crc0 (F ++ p.data.toList.take j)) p[j].toNat (crc0_lt _) p[j].toNat_lt w
          have e : stepN (crc0 (F ++ p.data.toList.take j)) p[j].toNat = crc0 (F ++ p.data.toList.take (j + 1)) := by
            rw [take_snoc p j hjl, ← List.append_assoc]
            unfold crc0
            rw [runN_snoc]
          rw [e] at hst
          have HST := Lib.hid hst
          clear hst e
          go_wp2_with (go_at_call 85; go_must (refine (HST.out).mono ?_); rintro e w1 ⟨rfl, rfl⟩)
          go_round
          case rel => exact ⟨j + 1, by omega, by go_num, rfl⟩
          case measure => simp [intOf]; omega
        · go_wp2
          go_round
          case rel =>
            refine ⟨k + 1, by omega, by go_num, ?_⟩
            have e : j = p.size := by omega
            subst e
            rw [HF.out, List.take_of_length_le (by simp)]
          case measure => simp [intOf]; omega
    · go_wp2
      go_ret
      refine ⟨?_, rfl⟩
      have e : k = L := by omega
      subst e
      rw [List.take_of_length_le (by rw [← HL.out]; exact Nat.le_refl _)]
      have h := u32_xor_nat 4294967295 (crc0 (flat ps)) (by omega) (crc0_lt _)
      rw [not32 _ (crc0_lt _)] at h
      exact congrArg (fun x => Ending.returned (.int .u32 x)) h
end Go.Proofs.Ytdojepkmjifoeaa
