/- Walk of the law FrameTurned: frames that may be. -/
import Derived.Test.YtlochpnifjmefaaFG
namespace Go.Proofs.Ytlochpnifjmefaa
open Go.RowKit

theorem turned_bad (l m t : List UInt8) (k y : Nat) (hm : m = markL t) (hl : l.length = m.length) (hk : k ≤ 8 * l.length) (hy : y < 4294967296) (hne : ¬ l = m)
    (hnum : num l = num m ^^^ turned k y (8 * l.length) 32) : codeP (str l) ≠ 0 := by
  intro h
  obtain ⟨t', ht⟩ := parse_marked _ h
  rw [data_str] at ht
  refine burst m l k y hl.symm (by rw [← hl]; exact hk) hy hne (by rw [← hl]; exact hnum) ?_
  rw [hm, mark_run, ht, mark_run]

set_option maxRecDepth 100000 in
set_option maxHeartbeats 4000000 in
theorem turned_fine (k0 e : Nat) (b : ByteArray) (a y : Nat) (h1 : 1 ≤ k0) (h2 : k0 ≤ 255) (he : e ≤ 18446744073709551615) (hb5 : b.size ≤ 500) (ha : a < 65536) (hy : y < 4294967296) (w : World) :
    Calls Try.prog 7 #[.agg #[.int .i64 k0, .int .u64 e, .string b], .int .u16 a, .int .u32 y] w fun e w' => e = .returned (.bool true) ∧ Below w.heap.size w w' := by
  obtain ⟨m, hm⟩ : ∃ m, m = frameL k0 e b.data.toList := ⟨_, rfl⟩
  obtain ⟨L, hL⟩ : ∃ L, L = b.size + 20 := ⟨_, rfl⟩
  have hml : m.length = L := by rw [hm, hL, frameL_length]; simp
  have hsz : (str m).size = L := by rw [size_str, hml]
  have HPM := Lib.hid (parse_frame k0 e b h1 h2 he (by omega) (str m) (by rw [hm]))
  have HMM := Lib.hid (show ∃ t, m = markL t from ⟨_, hm⟩)
  obtain ⟨k, hk⟩ : ∃ k, k = a % (8 * L) := ⟨_, rfl⟩
  have hkl : k < 8 * L := by rw [hk]; exact Nat.mod_lt _ (by omega)
  have e1 : (a : Int) % (8 * (L : Int)) = (k : Int) := by rw [hk]; simp
  have k1 := fun w => bytes_ok k0 e b h1 h2 he (by omega) w
  rw [← hm] at k1
  have hL4 : 20 ≤ L := by omega
  have hL5 : L ≤ 520 := by omega
  have K1 := Lib.hid k1
  have HML := Lib.hid hml
  have HSZ := Lib.hid hsz
  have HY := Lib.hid hy
  clear k1 hm hL hml hsz hk hy he
  obtain ⟨w0, hw0⟩ : ∃ w0, w0 = w.alloc (.cells #[.int .i64 (k0 : Int), .int .u64 (e : Int), .string b] 51) := ⟨_, rfl⟩
  have hB : Below w.heap.size w w0 := by rw [hw0]; exact (Below.refl _ _).alloc (Nat.le_refl _) _
  have hlt : w.heap.size < w0.heap.size := by rw [hw0]; simp
  have hF : Fr w0 w.heap.size k0 e b := by rw [hw0]; exact Fr.new _ _ _ _
  have HB := Lib.hid hB
  have HF := Lib.hid hF
  have HLT := Lib.hid hlt
  clear hB hF hlt
  go_enter Try.func7, Try.ntmps7
  go_wp2_with fail
  rw [← hw0]
  clear hw0
  refine (awake8_any _).mono ?_
  rintro r w1 ⟨rfl, hb1⟩
  have HB1 := Lib.hid (HB.out.trans (hb1.mono HB.out.size))
  have HF1 := Lib.hid (HF.out.below hb1 HLT.out)
  have HL1 := Lib.hid (Nat.lt_of_lt_of_le HLT.out hb1.size)
  obtain ⟨c0, c1, c2⟩ := HF1.out
  clear hb1
  go_wp2_with fail
  refine (K1.out _).mono ?_
  rintro r w2 ⟨rfl, hb2⟩
  have HB2 := Lib.hid (HB1.out.trans (hb2.mono HB1.out.size))
  clear c0 c1 c2
  obtain ⟨c0, c1, c2⟩ := HF1.out.below hb2 HL1.out
  clear hb2
  obtain ⟨cap, w3, hrun, hbt, hb3, hlt3⟩ := bytes_of w2 (str m)
  rw [HSZ.out] at hrun
  rw [data_str] at hbt
  obtain ⟨g, hg⟩ : ∃ g, g = w2.heap.size := ⟨_, rfl⟩
  rw [← hg] at hrun hbt hlt3
  have HBT := Lib.hid hbt
  have HB3 := Lib.hid (HB2.out.trans (hb3.mono HB2.out.size))
  have hg1 : w.heap.size ≤ g := by rw [hg]; exact HB2.out.size
  have HG := Lib.hid hg1
  clear hbt hb3 hlt3 hg hg1
  go_wp2
  try rw [e1]
  clear e1 hrun c0 c1 c2
  go_loopw [37] (fun i wr => ∃ (j : Nat) (l : List UInt8), j ≤ 32 ∧ i = .int .i64 j ∧ l.length = L ∧ num l = num m ^^^ turned k y (8 * L) j ∧ Bts wr g l ∧ Below w.heap.size w wr) (fun i _ => 32 - (intOf i).toNat)
  case atStart => exact ⟨0, m, Nat.zero_le _, rfl, HML.out, by simp [turned, Nat.mod_one], HBT.out, HB3.out⟩
  case round =>
    obtain ⟨j, l, hj, rfl, hll, hnum, hbt, hbx⟩ := hrel
    by_cases hj32 : j < 32
    · have hbit := bit_at y j HY.out
      by_cases hb1 : y / 2 ^ j % 2 = 1
      · rw [hb1] at hbit
        by_cases hin : k + j < 8 * L
        · obtain ⟨p, hp⟩ : ∃ p, p = (k + j) / 8 := ⟨_, rfl⟩
          obtain ⟨r, hr⟩ : ∃ r, r = (k + j) % 8 := ⟨_, rfl⟩
          have f1 : ((k : Int) + j) / 8 = (p : Int) := by omega
          have f2 : ((k : Int) + j) % 8 = (r : Int) := by omega
          have hpL : p < L := by omega
          have hr8 : r ≤ 7 := by omega
          obtain ⟨hc, hf⟩ := hbt p (by rw [hll]; exact hpL)
          have HP := Lib.hid hp
          have HR := Lib.hid hr
          have HLL := Lib.hid hll
          have HN := Lib.hid hnum
          have HBI := Lib.hid hb1
          have HBT2 := Lib.hid hbt
          have HBX2 := Lib.hid hbx
          clear hp hr hll hnum hb1 hbt hbx
          go_wp2
          go_region
          go_wp2
          go_roundw
          case rel =>
            obtain ⟨l2, q1, q2, q3⟩ := flip_step HLL.out HP.out HR.out hin HBI.out HN.out HBT2.out
            exact ⟨j + 1, l2, by omega, by go_num, q1, q2, q3, (HBX2.out.setCell HG.out _).drew⟩
          case measure => simp [intOf]; omega
        · have hst := turned_still k y (8 * L) j (Or.inr (by omega))
          have HN := Lib.hid hnum
          have HST := Lib.hid hst
          have HLL := Lib.hid hll
          have HBT2 := Lib.hid hbt
          have HBX2 := Lib.hid hbx
          clear hnum hst hb1 hll hbt hbx
          go_wp2
          go_roundw
          case rel => exact ⟨j + 1, l, by omega, by go_num, HLL.out, by rw [HST.out]; exact HN.out, HBT2.out, HBX2.out⟩
          case measure => simp [intOf]; omega
      · have hb0 : y / 2 ^ j % 2 = 0 := by omega
        rw [hb0] at hbit
        have hst := turned_still k y (8 * L) j (Or.inl hb0)
        have HN := Lib.hid hnum
        have HST := Lib.hid hst
        have HLL := Lib.hid hll
        have HBT2 := Lib.hid hbt
        have HBX2 := Lib.hid hbx
        clear hnum hst hb1 hb0 hll hbt hbx
        go_wp2
        go_roundw
        case rel => exact ⟨j + 1, l, by omega, by go_num, HLL.out, by rw [HST.out]; exact HN.out, HBT2.out, HBX2.out⟩
        case measure => simp [intOf]; omega
    · have ej : j = 32 := by omega
      subst ej
      have HGL := Lib.hid (hbt.lt (by omega))
      have hcv := hbt.string (cap := cap)
      rw [hll] at hcv
      have HBT2 := Lib.hid hbt
      have HBX2 := Lib.hid hbx
      have hP := parse_any (str l) (by rw [size_str, hll]; omega)
      by_cases hlm : l = m
      · have hq : ((str l).toList == (str m).toList) = true := by rw [hlm, beq_iff_eq]
        obtain ⟨p1, p2, p3, p4⟩ := HPM.out
        rw [← hlm] at p1 p2 p3 p4
        rw [p1, p2, p3, p4] at hP
        have K2 := Lib.hid hP
        have HLL := Lib.hid hll
        clear hbt hbx hnum hll hP p1 p2 p3 p4 hlm
        have hq' := Lib.hid hq
        clear hq
        go_wp2_with fail
        refine (K2.out _).mono ?_
        rintro r w4 ⟨rfl, hb4⟩
        unfold paV
        have hb5' : Below w4.heap.size w4 (w4.alloc (.cells #[.int .i64 k0, .int .u64 e, .string b] 51)) := (Below.refl _ _).alloc (Nat.le_refl _) _
        have hcv2 := ((HBT2.out.below hb4 HGL.out).below hb5' (Nat.lt_of_lt_of_le HGL.out hb4.size)).string (cap := cap)
        rw [HLL.out] at hcv2
        have HB4 := Lib.hid ((HBX2.out.trans (hb4.mono HBX2.out.size)).trans (hb5'.mono (Nat.le_trans HBX2.out.size hb4.size)))
        clear hb4 hb5' hcv
        go_wp2
        go_ret
        exact ⟨congrArg (fun z => Ending.returned (.bool z)) hq'.out, HB4.out⟩
      · have hne : codeP (str l) ≠ 0 := by
          obtain ⟨t, ht⟩ := HMM.out
          exact turned_bad l m t k y ht (by rw [hll, HML.out]) (by rw [hll]; omega) HY.out hlm (by rw [hll]; exact hnum)
        have hq : ((str l).toList == (str m).toList) = false := by
          rw [toList_str, toList_str, beq_eq_false_iff_ne]; exact hlm
        have HLL := Lib.hid hll
        generalize codeP (str l) = cc at *
        generalize pK (str l) = kk at *
        generalize pE (str l) = ee at *
        generalize pB (str l) = bb at *
        have hz : ((cc : Int) == 0) = false := by rw [beq_eq_false_iff_ne]; omega
        have K2 := Lib.hid hP
        clear hbt hbx hnum hll hP hlm hne
        have hq' := Lib.hid hq
        clear hq
        go_wp2_with fail
        refine (K2.out _).mono ?_
        rintro r w4 ⟨rfl, hb4⟩
        unfold paV
        have hb5' : Below w4.heap.size w4 (w4.alloc (.cells #[.int .i64 kk, .int .u64 ee, .string bb] 51)) := (Below.refl _ _).alloc (Nat.le_refl _) _
        have hcv2 := ((HBT2.out.below hb4 HGL.out).below hb5' (Nat.lt_of_lt_of_le HGL.out hb4.size)).string (cap := cap)
        rw [HLL.out] at hcv2
        have HB4 := Lib.hid ((HBX2.out.trans (hb4.mono HBX2.out.size)).trans (hb5'.mono (Nat.le_trans HBX2.out.size hb4.size)))
        clear hb4 hb5' hcv
        go_wp2
        go_ret
        exact ⟨congrArg (fun z => Ending.returned (.bool (!z))) hq'.out, HB4.out⟩
end Go.Proofs.Ytlochpnifjmefaa
