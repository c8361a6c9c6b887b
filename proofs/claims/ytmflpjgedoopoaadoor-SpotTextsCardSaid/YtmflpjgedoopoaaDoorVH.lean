/- Walks of the document's Number. -/
import Derived.Test.YtmflpjgedoopoaaDoorVG
namespace Go.Proofs.YtmflpjgedoopoaaDoor.W
open Go.RowKit

theorem rnumber_empty (s : ByteArray) (hs : s.size = 0) (w : World) :
    Calls Tryd.prog 55 #[.string s] w fun e w' => e = .returned (.tuple #[.int .u64 0, .int .i64 4]) ∧ w = w' := by
  have he : s = ByteArray.empty := by
    apply ByteArray.ext
    exact Array.eq_empty_of_size_eq_zero hs
  subst he
  go_enter Tryd.func55, Tryd.ntmps55
  go_wp2
  go_ret2
  exact ⟨rfl, rfl⟩

theorem rnumber_nought (s : ByteArray) (h1 : 1 < s.size) (hm : s.size ≤ 100) (hz : s[0].toNat = 48) (w : World) :
    Calls Tryd.prog 55 #[.string s] w fun e w' => e = .returned (.tuple #[.int .u64 0, .int .i64 4]) ∧ w = w' := by
  have h0 : 0 < s.size := by omega
  have he : ((s.size : Int) == 0) = false := by rw [beq_eq_false_iff_ne]; omega
  have hb : ((s[0].toNat : Int) == 48) = true := by rw [beq_iff_eq]; omega
  clear hz
  go_enter Tryd.func55, Tryd.ntmps55
  go_wp2
  go_ret2
  exact ⟨rfl, rfl⟩

/-- What the loop holds: the number so far, or that it is too great. -/
def Far (l : List UInt8) (a : Int) (gb : Bool) : Prop :=
  0 ≤ a ∧ a ≤ 18446744073709551615 ∧ (gb = false → a = (val l : Int)) ∧ (gb = true → 18446744073709551615 < val l)

theorem far_more {l : List UInt8} {c : UInt8} {a : Int} {gb : Bool} (h1 : 48 ≤ c.toNat) (h2 : c.toNat ≤ 57) (h : Far l a gb) (hq : (18446744073709551615 - ((c.toNat : Int) - 48)) / 10 < a) :
    Far (l ++ [c]) (IntKind.u64.wrap (IntKind.u64.wrap (a * 10) + ((c.toNat : Int) - 48))) true := by
  obtain ⟨a0, a1, f, t⟩ := h
  rw [IntKind.wrap_u64, IntKind.wrap_u64]
  refine ⟨by omega, by omega, (fun h => by cases h), fun _ => ?_⟩
  rw [val_snoc]
  cases gb with
  | false => have := f rfl; omega
  | true => have := t rfl; omega
theorem far_still {l : List UInt8} {c : UInt8} {a : Int} {gb : Bool} (h1 : 48 ≤ c.toNat) (h2 : c.toNat ≤ 57) (h : Far l a gb) (hq : a ≤ (18446744073709551615 - ((c.toNat : Int) - 48)) / 10) :
    Far (l ++ [c]) (IntKind.u64.wrap (IntKind.u64.wrap (a * 10) + ((c.toNat : Int) - 48))) gb := by
  obtain ⟨a0, a1, f, t⟩ := h
  rw [IntKind.wrap_u64, IntKind.wrap_u64]
  refine ⟨by omega, by omega, fun hg => ?_, fun hg => ?_⟩
  · have := f hg
    rw [val_snoc]; omega
  · have := t hg
    rw [val_snoc]; omega
theorem take_snoc (s : ByteArray) (k : Nat) (h : k < s.size) : s.data.toList.take (k + 1) = s.data.toList.take k ++ [s[k]] := by
  rw [List.take_succ_eq_append_getElem (by simpa using h)]; rfl

theorem digs_step {s : ByteArray} {k : Nat} {hk : k < s.size} (h1 : 48 ≤ s[k].toNat) (h2 : s[k].toNat ≤ 57) (ha : ∀ j, (h : j < s.size) → j < k → 48 ≤ s[j].toNat ∧ s[j].toNat ≤ 57) :
    ∀ j, (h : j < s.size) → j < k + 1 → 48 ≤ s[j].toNat ∧ s[j].toNat ≤ 57 := by
  intro j h hj
  by_cases e : j = k
  · subst e; exact ⟨h1, h2⟩
  · exact ha j h (by omega)

theorem rnumber_bad (s : ByteArray) (h1 : 1 ≤ s.size) (hz : ¬ (1 < s.size ∧ s[0].toNat = 48)) (hbad : ∃ j, ∃ h : j < s.size, ¬ (48 ≤ s[j].toNat ∧ s[j].toNat ≤ 57)) (hm : s.size ≤ 100) (w : World) :
    Calls Tryd.prog 55 #[.string s] w fun e w' => e = .returned (.tuple #[.int .u64 0, .int .i64 4]) ∧ w = w' := by
  have h0 : 0 < s.size := by omega
  have he : ((s.size : Int) == 0) = false := by rw [beq_eq_false_iff_ne]; omega
  have HB := Lib.hid hbad
  clear hbad
  by_cases hs : 1 < s.size
  · have hb : ((s[0].toNat : Int) == 48) = false := by rw [beq_eq_false_iff_ne]; omega
    clear hz
    go_enter Tryd.func55, Tryd.ntmps55
    go_wp2
    go_loop [4, 5, 6] (fun n g i => ∃ (k : Nat) (a : Int) (gb : Bool), k ≤ s.size ∧ i = .int .i64 k ∧ n = .int .u64 a ∧ g = .bool gb ∧ Hid (Far (s.data.toList.take k) a gb) ∧ Hid (∀ j, (h : j < s.size) → j < k → 48 ≤ s[j].toNat ∧ s[j].toNat ≤ 57)) (fun _ _ i => s.size - (intOf i).toNat)
    case atStart => exact ⟨0, 0, false, Nat.zero_le _, rfl, rfl, rfl, Lib.hid ⟨by omega, by omega, fun _ => by simp [val], fun h => by cases h⟩, Lib.hid (fun j _ h => absurd h (by omega))⟩
    case round =>
      obtain ⟨k, a, gb, hk, rfl, rfl, rfl, HF, HA⟩ := hrel
      by_cases hlt : k < s.size
      · by_cases hlo : s[k].toNat < 48
        · go_wp2
          go_ret2
          exact ⟨rfl, rfl⟩
        · by_cases hhi : 57 < s[k].toNat
          · go_wp2
            go_ret2
            exact ⟨rfl, rfl⟩
          · have HLO := Lib.hid hlo
            have HHI := Lib.hid hhi
            have HTS := Lib.hid (take_snoc s k hlt)
            go_wp2
            all_goals
              go_round
              case rel =>
                first
                | exact ⟨k + 1, _, true, by omega, by go_num, rfl, rfl, Lib.hid (by rw [HTS.out]; exact far_more (by have := HLO.out; omega) (by have := HHI.out; omega) HF.out (by assumption)), Lib.hid (digs_step (by have := HLO.out; omega) (by have := HHI.out; omega) HA.out)⟩
                | exact ⟨k + 1, _, gb, by omega, by go_num, rfl, rfl, Lib.hid (by rw [HTS.out]; exact far_still (by have := HLO.out; omega) (by have := HHI.out; omega) HF.out (by assumption)), Lib.hid (digs_step (by have := HLO.out; omega) (by have := HHI.out; omega) HA.out)⟩
              case measure => simp [intOf]; omega
      · obtain ⟨j, hj, hn⟩ := HB.out
        exact absurd (HA.out j hj (by omega)) hn
  · clear hz
    go_enter Tryd.func55, Tryd.ntmps55
    go_wp2
    go_loop [4, 5, 6] (fun n g i => ∃ (k : Nat) (a : Int) (gb : Bool), k ≤ s.size ∧ i = .int .i64 k ∧ n = .int .u64 a ∧ g = .bool gb ∧ Hid (Far (s.data.toList.take k) a gb) ∧ Hid (∀ j, (h : j < s.size) → j < k → 48 ≤ s[j].toNat ∧ s[j].toNat ≤ 57)) (fun _ _ i => s.size - (intOf i).toNat)
    case atStart => exact ⟨0, 0, false, Nat.zero_le _, rfl, rfl, rfl, Lib.hid ⟨by omega, by omega, fun _ => by simp [val], fun h => by cases h⟩, Lib.hid (fun j _ h => absurd h (by omega))⟩
    case round =>
      obtain ⟨k, a, gb, hk, rfl, rfl, rfl, HF, HA⟩ := hrel
      by_cases hlt : k < s.size
      · by_cases hlo : s[k].toNat < 48
        · go_wp2
          go_ret2
          exact ⟨rfl, rfl⟩
        · by_cases hhi : 57 < s[k].toNat
          · go_wp2
            go_ret2
            exact ⟨rfl, rfl⟩
          · have HLO := Lib.hid hlo
            have HHI := Lib.hid hhi
            have HTS := Lib.hid (take_snoc s k hlt)
            go_wp2
            all_goals
              go_round
              case rel =>
                first
                | exact ⟨k + 1, _, true, by omega, by go_num, rfl, rfl, Lib.hid (by rw [HTS.out]; exact far_more (by have := HLO.out; omega) (by have := HHI.out; omega) HF.out (by assumption)), Lib.hid (digs_step (by have := HLO.out; omega) (by have := HHI.out; omega) HA.out)⟩
                | exact ⟨k + 1, _, gb, by omega, by go_num, rfl, rfl, Lib.hid (by rw [HTS.out]; exact far_still (by have := HLO.out; omega) (by have := HHI.out; omega) HF.out (by assumption)), Lib.hid (digs_step (by have := HLO.out; omega) (by have := HHI.out; omega) HA.out)⟩
              case measure => simp [intOf]; omega
      · obtain ⟨j, hj, hn⟩ := HB.out
        exact absurd (HA.out j hj (by omega)) hn

theorem rnumber_ok (s : ByteArray) (h1 : 1 ≤ s.size) (hz : ¬ (1 < s.size ∧ s[0].toNat = 48)) (hall : ∀ j, (h : j < s.size) → 48 ≤ s[j].toNat ∧ s[j].toNat ≤ 57) (hu : val s.data.toList ≤ 18446744073709551615) (hm : s.size ≤ 100) (w : World) :
    Calls Tryd.prog 55 #[.string s] w fun e w' => e = .returned (.tuple #[.int .u64 (val s.data.toList : Nat), .int .i64 0]) ∧ w = w' := by
  have h0 : 0 < s.size := by omega
  have he : ((s.size : Int) == 0) = false := by rw [beq_eq_false_iff_ne]; omega
  have HALL := Lib.hid hall
  have HU := Lib.hid hu
  clear hall hu
  by_cases hs : 1 < s.size
  · have hb : ((s[0].toNat : Int) == 48) = false := by rw [beq_eq_false_iff_ne]; omega
    clear hz
    go_enter Tryd.func55, Tryd.ntmps55
    go_wp2
    go_loop [4, 5, 6] (fun n g i => ∃ (k : Nat) (a : Int) (gb : Bool), k ≤ s.size ∧ i = .int .i64 k ∧ n = .int .u64 a ∧ g = .bool gb ∧ Hid (Far (s.data.toList.take k) a gb)) (fun _ _ i => s.size - (intOf i).toNat)
    case atStart => exact ⟨0, 0, false, Nat.zero_le _, rfl, rfl, rfl, Lib.hid ⟨by omega, by omega, fun _ => by simp [val], fun h => by cases h⟩⟩
    case round =>
      obtain ⟨k, a, gb, hk, rfl, rfl, rfl, HF⟩ := hrel
      by_cases hlt : k < s.size
      · by_cases hlo : s[k].toNat < 48
        · have := HALL.out k hlt; omega
        · by_cases hhi : 57 < s[k].toNat
          · have := HALL.out k hlt; omega
          · have HLO := Lib.hid hlo
            have HHI := Lib.hid hhi
            have HTS := Lib.hid (take_snoc s k hlt)
            go_wp2
            all_goals
              go_round
              case rel =>
                first
                | exact ⟨k + 1, _, true, by omega, by go_num, rfl, rfl, Lib.hid (by rw [HTS.out]; exact far_more (by have := HLO.out; omega) (by have := HHI.out; omega) HF.out (by assumption))⟩
                | exact ⟨k + 1, _, gb, by omega, by go_num, rfl, rfl, Lib.hid (by rw [HTS.out]; exact far_still (by have := HLO.out; omega) (by have := HHI.out; omega) HF.out (by assumption))⟩
              case measure => simp [intOf]; omega
      · have HF2 : Hid (Far s.data.toList a gb) := by
          rw [List.take_of_length_le (by simp; omega)] at HF
          exact HF
        match gb, HF2 with
        | true, HF2 => exact absurd (HF2.out.2.2.2 rfl) (by have := HU.out; omega)
        | false, HF2 => 
          go_wp2
          go_ret2
          refine ⟨?_, rfl⟩
          rw [← HF2.out.2.2.1 rfl]; rfl
  · clear hz
    go_enter Tryd.func55, Tryd.ntmps55
    go_wp2
    go_loop [4, 5, 6] (fun n g i => ∃ (k : Nat) (a : Int) (gb : Bool), k ≤ s.size ∧ i = .int .i64 k ∧ n = .int .u64 a ∧ g = .bool gb ∧ Hid (Far (s.data.toList.take k) a gb)) (fun _ _ i => s.size - (intOf i).toNat)
    case atStart => exact ⟨0, 0, false, Nat.zero_le _, rfl, rfl, rfl, Lib.hid ⟨by omega, by omega, fun _ => by simp [val], fun h => by cases h⟩⟩
    case round =>
      obtain ⟨k, a, gb, hk, rfl, rfl, rfl, HF⟩ := hrel
      by_cases hlt : k < s.size
      · by_cases hlo : s[k].toNat < 48
        · have := HALL.out k hlt; omega
        · by_cases hhi : 57 < s[k].toNat
          · have := HALL.out k hlt; omega
          · have HLO := Lib.hid hlo
            have HHI := Lib.hid hhi
            have HTS := Lib.hid (take_snoc s k hlt)
            go_wp2
            all_goals
              go_round
              case rel =>
                first
                | exact ⟨k + 1, _, true, by omega, by go_num, rfl, rfl, Lib.hid (by rw [HTS.out]; exact far_more (by have := HLO.out; omega) (by have := HHI.out; omega) HF.out (by assumption))⟩
                | exact ⟨k + 1, _, gb, by omega, by go_num, rfl, rfl, Lib.hid (by rw [HTS.out]; exact far_still (by have := HLO.out; omega) (by have := HHI.out; omega) HF.out (by assumption))⟩
              case measure => simp [intOf]; omega
      · have HF2 : Hid (Far s.data.toList a gb) := by
          rw [List.take_of_length_le (by simp; omega)] at HF
          exact HF
        match gb, HF2 with
        | true, HF2 => exact absurd (HF2.out.2.2.2 rfl) (by have := HU.out; omega)
        | false, HF2 => 
          go_wp2
          go_ret2
          refine ⟨?_, rfl⟩
          rw [← HF2.out.2.2.1 rfl]; rfl

theorem rnumber_range (s : ByteArray) (h1 : 1 ≤ s.size) (hz : ¬ (1 < s.size ∧ s[0].toNat = 48)) (hall : ∀ j, (h : j < s.size) → 48 ≤ s[j].toNat ∧ s[j].toNat ≤ 57) (hu : ¬ val s.data.toList ≤ 18446744073709551615) (hm : s.size ≤ 100) (w : World) :
    Calls Tryd.prog 55 #[.string s] w fun e w' => e = .returned (.tuple #[.int .u64 0, .int .i64 7]) ∧ w = w' := by
  have h0 : 0 < s.size := by omega
  have he : ((s.size : Int) == 0) = false := by rw [beq_eq_false_iff_ne]; omega
  have HALL := Lib.hid hall
  have HU := Lib.hid hu
  clear hall hu
  by_cases hs : 1 < s.size
  · have hb : ((s[0].toNat : Int) == 48) = false := by rw [beq_eq_false_iff_ne]; omega
    clear hz
    go_enter Tryd.func55, Tryd.ntmps55
    go_wp2
    go_loop [4, 5, 6] (fun n g i => ∃ (k : Nat) (a : Int) (gb : Bool), k ≤ s.size ∧ i = .int .i64 k ∧ n = .int .u64 a ∧ g = .bool gb ∧ Hid (Far (s.data.toList.take k) a gb)) (fun _ _ i => s.size - (intOf i).toNat)
    case atStart => exact ⟨0, 0, false, Nat.zero_le _, rfl, rfl, rfl, Lib.hid ⟨by omega, by omega, fun _ => by simp [val], fun h => by cases h⟩⟩
    case round =>
      obtain ⟨k, a, gb, hk, rfl, rfl, rfl, HF⟩ := hrel
      by_cases hlt : k < s.size
      · by_cases hlo : s[k].toNat < 48
        · have := HALL.out k hlt; omega
        · by_cases hhi : 57 < s[k].toNat
          · have := HALL.out k hlt; omega
          · have HLO := Lib.hid hlo
            have HHI := Lib.hid hhi
            have HTS := Lib.hid (take_snoc s k hlt)
            go_wp2
            all_goals
              go_round
              case rel =>
                first
                | exact ⟨k + 1, _, true, by omega, by go_num, rfl, rfl, Lib.hid (by rw [HTS.out]; exact far_more (by have := HLO.out; omega) (by have := HHI.out; omega) HF.out (by assumption))⟩
                | exact ⟨k + 1, _, gb, by omega, by go_num, rfl, rfl, Lib.hid (by rw [HTS.out]; exact far_still (by have := HLO.out; omega) (by have := HHI.out; omega) HF.out (by assumption))⟩
              case measure => simp [intOf]; omega
      · have HF2 : Hid (Far s.data.toList a gb) := by
          rw [List.take_of_length_le (by simp; omega)] at HF
          exact HF
        match gb, HF2 with
        | true, HF2 => 
          go_wp2
          go_ret2
          exact ⟨rfl, rfl⟩
        | false, HF2 => exact absurd (HF2.out.2.2.1 rfl) (by have := HU.out; have := HF2.out.2.1; omega)
  · clear hz
    go_enter Tryd.func55, Tryd.ntmps55
    go_wp2
    go_loop [4, 5, 6] (fun n g i => ∃ (k : Nat) (a : Int) (gb : Bool), k ≤ s.size ∧ i = .int .i64 k ∧ n = .int .u64 a ∧ g = .bool gb ∧ Hid (Far (s.data.toList.take k) a gb)) (fun _ _ i => s.size - (intOf i).toNat)
    case atStart => exact ⟨0, 0, false, Nat.zero_le _, rfl, rfl, rfl, Lib.hid ⟨by omega, by omega, fun _ => by simp [val], fun h => by cases h⟩⟩
    case round =>
      obtain ⟨k, a, gb, hk, rfl, rfl, rfl, HF⟩ := hrel
      by_cases hlt : k < s.size
      · by_cases hlo : s[k].toNat < 48
        · have := HALL.out k hlt; omega
        · by_cases hhi : 57 < s[k].toNat
          · have := HALL.out k hlt; omega
          · have HLO := Lib.hid hlo
            have HHI := Lib.hid hhi
            have HTS := Lib.hid (take_snoc s k hlt)
            go_wp2
            all_goals
              go_round
              case rel =>
                first
                | exact ⟨k + 1, _, true, by omega, by go_num, rfl, rfl, Lib.hid (by rw [HTS.out]; exact far_more (by have := HLO.out; omega) (by have := HHI.out; omega) HF.out (by assumption))⟩
                | exact ⟨k + 1, _, gb, by omega, by go_num, rfl, rfl, Lib.hid (by rw [HTS.out]; exact far_still (by have := HLO.out; omega) (by have := HHI.out; omega) HF.out (by assumption))⟩
              case measure => simp [intOf]; omega
      · have HF2 : Hid (Far s.data.toList a gb) := by
          rw [List.take_of_length_le (by simp; omega)] at HF
          exact HF
        match gb, HF2 with
        | true, HF2 => 
          go_wp2
          go_ret2
          exact ⟨rfl, rfl⟩
        | false, HF2 => exact absurd (HF2.out.2.2.1 rfl) (by have := HU.out; have := HF2.out.2.1; omega)

end Go.Proofs.YtmflpjgedoopoaaDoor.W
