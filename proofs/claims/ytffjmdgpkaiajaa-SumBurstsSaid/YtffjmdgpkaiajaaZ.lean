/- Walk of the law SumBursts. -/
import Derived.Test.YtffjmdgpkaiajaaU
import Derived.Test.YtffjmdgpkaiajaaX
import Derived.Test.YtffjmdgpkaiajaaS
namespace Go.Proofs.Ytffjmdgpkaiajaa
open Go.RowKit

theorem sumBursts_great (s : ByteArray) (a y : Nat) (h : 500 < s.size) (w : World) :
    Calls Try.prog 8 #[.string s, .int .u16 a, .int .u32 y] w fun e w' => e = .returned (.bool true) ∧ Below w.heap.size w w' := by
  have hB := Below.refl w.heap.size w
  go_enter Try.func8, Try.ntmps8
  go_wp2_with (first
    | (go_at_call 19; go_must (refine (awake2_any _).mono ?_); rintro e w1 ⟨rfl, hb1⟩; replace hB := hB.trans (hb1.mono hB.size)))
  go_ret
  exact ⟨rfl, hB⟩
theorem sumBursts_still (s : ByteArray) (a : Nat) (h : s.size ≤ 500) (w : World) :
    Calls Try.prog 8 #[.string s, .int .u16 a, .int .u32 0] w fun e w' => e = .returned (.bool true) ∧ Below w.heap.size w w' := by
  have hB := Below.refl w.heap.size w
  go_enter Try.func8, Try.ntmps8
  go_wp2_with (first
    | (go_at_call 19; go_must (refine (awake2_any _).mono ?_); rintro e w1 ⟨rfl, hb1⟩; replace hB := hB.trans (hb1.mono hB.size)))
  go_ret
  exact ⟨rfl, hB⟩

theorem bit_at (y j : Nat) (hy : y < 4294967296) : bits BinOp.and IntKind.u32 ((y : Int) / 2 ^ j) 1 = ((y / 2 ^ j % 2 : Nat) : Int) := by
  have h := and1_32 (y / 2 ^ j) (Nat.lt_of_le_of_lt (Nat.div_le_self _ _) hy)
  rw [← h]; simp

theorem flip_step {wr : World} {g : Nat} {l m : List UInt8} {k y L j p r : Nat} (hll : l.length = L) (hp : p = (k + j) / 8) (hr : r = (k + j) % 8) (hin : k + j < 8 * L) (hb : y / 2 ^ j % 2 = 1)
    (hnum : num l = num m ^^^ turned k y (8 * L) j) (hbt : Bts wr g l) :
    ∃ l' : List UInt8, l'.length = L ∧ num l' = num m ^^^ turned k y (8 * L) (j + 1) ∧
      Bts (wr.setCell ⟨g, p, none⟩ (.int .u8 (bits BinOp.xor IntKind.u8 ((l[p]?.getD 0).toNat : Int) (2 ^ r % 256)))).drew g l' := by
  have hpl : p < l.length := by omega
  have hr7 : r ≤ 7 := by omega
  have hr2 : 2 ^ r < 256 := Nat.lt_of_le_of_lt (Nat.pow_le_pow_right (by omega) hr7) (by omega)
  have e : (l[p]?.getD 0) = l[p] := by simp [hpl]
  have hcl := l[p].toNat_lt
  have hx : l[p].toNat ^^^ 2 ^ r < 256 := Nat.xor_lt_two_pow (n := 8) hcl hr2
  have e3 : (UInt8.ofNat (l[p].toNat ^^^ 2 ^ r)).toNat = l[p].toNat ^^^ 2 ^ r := by rw [UInt8.toNat_ofNat', Nat.mod_eq_of_lt hx]
  have e4 : bits BinOp.xor IntKind.u8 ((l[p]?.getD 0).toNat : Int) (2 ^ r % 256) = (((UInt8.ofNat (l[p].toNat ^^^ 2 ^ r)).toNat : Nat) : Int) := by
    rw [e, e3, ← u8_xor_nat _ _ hcl hr2]
    have h2 : (2 : Int) ^ r = ((2 ^ r : Nat) : Int) := by simp
    rw [h2]
    generalize 2 ^ r = z at *
    rw [show (z : Int) % 256 = (z : Int) by omega]
  refine ⟨l.set p (UInt8.ofNat (l[p].toNat ^^^ 2 ^ r)), by rw [List.length_set]; exact hll, ?_, (hbt.set p hpl _ _ e4).drewN 1⟩
  rw [num_set l p _ (2 ^ r) hpl hr2 e3, hnum, turned_flip k y (8 * L) j hb hin, ← Nat.pow_add, show 8 * p + r = k + j by omega, Nat.xor_assoc]

theorem num_le4 (c : Nat) (h : c < 4294967296) : num (le4 c) = c := by
  simp [num, le4]; omega
theorem mark_run (t : List UInt8) : runN 4294967295 (markL t) = bitN 32 4294967295 :=
  marked_run t _ (crcV t) (num_le4 _ (crcV_lt t)) (le4_length _) (crcV_lt t) rfl

/-- What is turned so, and another text, is no marked one. -/
theorem burst_bad (l m : List UInt8) (k y n : Nat) (t : List UInt8) (hm : m = markL t) (hl : l.length = n + 4) (ht : t.length = n) (hk : k ≤ 8 * l.length) (hy : y < 4294967296) (hne : ¬ l = m)
    (hnum : num l = num m ^^^ turned k y (8 * l.length) 32) : ¬ ((str l).extract n (str l).size).toList = le4 (crcV ((str l).extract 0 n).data.toList) := by
  intro h
  have hml : m.length = l.length := by rw [hm, hl]; simp [markL, le4_length, ht]
  have h1 := (mark_iff (str l) n (by rw [size_str, hl])).2 h
  rw [data_str] at h1
  refine burst m l k y hml (by rw [hml]; exact hk) hy hne (by rw [hml]; exact hnum) ?_
  rw [← h1, mark_run, hm, mark_run]

set_option maxHeartbeats 2000000 in
theorem sumBursts_fine (s : ByteArray) (a y : Nat) (h5 : s.size ≤ 500) (ha : a < 65536) (hy0 : 1 ≤ y) (hy : y < 4294967296) (w : World) :
    Calls Try.prog 8 #[.string s, .int .u16 a, .int .u32 y] w fun e w' => e = .returned (.bool true) ∧ Below w.heap.size w w' := by
  have hB := Below.refl w.heap.size w
  obtain ⟨m, hm⟩ : ∃ m, m = markL s.data.toList := ⟨_, rfl⟩
  obtain ⟨L, hL⟩ : ∃ L, L = s.size + 4 := ⟨_, rfl⟩
  have hml : m.length = L := by rw [hm, hL]; simp [markL, le4_length]
  have hsz : (str m).size = L := by rw [size_str, hml]
  obtain ⟨k, hk⟩ : ∃ k, k = a % (8 * L) := ⟨_, rfl⟩
  have hkl : k < 8 * L := by rw [hk]; exact Nat.mod_lt _ (by omega)
  have e1 : (a : Int) % (8 * (L : Int)) = (k : Int) := by rw [hk]; simp
  have hyz : ((y : Int) == 0) = false := by rw [beq_eq_false_iff_ne]; omega
  have k1 := fun w => mark_any s w (by omega)
  rw [← hm] at k1
  have hL4 : 4 ≤ L := by omega
  have hL5 : L ≤ 504 := by omega
  have K1 := Lib.hid k1
  have HM := Lib.hid hm
  have HL := Lib.hid hL
  have HML := Lib.hid hml
  have HSZ := Lib.hid hsz
  have HY := Lib.hid hy
  clear k1 hm hL hml hsz hk hy
  go_enter Try.func8, Try.ntmps8
  go_upto_region 5 with (first
    | (go_at_call 19; go_must (refine (awake2_any _).mono ?_); rintro e w1 ⟨rfl, hb1⟩; replace hB := hB.trans (hb1.mono hB.size)))
  go_cut [7] from 21 (fun v wx => ∃ g cap, v = .slice (some ⟨g, 0, none⟩) L cap ∧ w.heap.size ≤ g ∧ Bts wx g m ∧ Below w.heap.size w wx)
  case first =>
    go_wp2_with (first
      | (go_at_call 25; go_must (refine (K1.out _).mono ?_); rintro e w2 ⟨rfl, hb2⟩; obtain ⟨cap, w3, hrun, hbt, hb3, hlt⟩ := bytes_of w2 (str m); rw [HSZ.out] at hrun; have HBT := Lib.hid hbt; have HB3 := Lib.hid hb3; clear hbt hb3))
    go_meet
    case rel => exact ⟨w2.heap.size, cap, rfl, by have := hB.size; have := hb2.size; omega, HBT.out, (hB.trans (hb2.mono hB.size)).trans (HB3.out.mono (by have := hB.size; have := hb2.size; omega))⟩
  case rest =>
    obtain ⟨g, cap, rfl, hg, hbt, hbx⟩ := hcut
    clear hB hb1
    have HBT := Lib.hid hbt
    have HBX := Lib.hid hbx
    clear hbt hbx
    go_wp2
    rw [e1]
    clear e1
    go_loopw [30] (fun i wr => ∃ (j : Nat) (l : List UInt8), j ≤ 32 ∧ i = .int .i64 j ∧ l.length = L ∧ num l = num m ^^^ turned k y (8 * L) j ∧ Bts wr g l ∧ Below w.heap.size w wr) (fun i _ => 32 - (intOf i).toNat)
    case atStart => exact ⟨0, m, Nat.zero_le _, rfl, HML.out, by simp [turned, Nat.mod_one], HBT.out, HBX.out⟩
    case round =>
      obtain ⟨j, l, hj, rfl, hll, hnum, hbt, hbx⟩ := hrel
      by_cases hj32 : j < 32
      · have hbit := bit_at y j HY.out
        by_cases hb1 : y / 2 ^ j % 2 = 1
        · rw [hb1] at hbit
          by_cases hin : k + j < 8 * L
          · obtain ⟨p, hp⟩ : ∃ p, p = (k + j) / 8 := ⟨_, rfl⟩
            obtain ⟨r, hr⟩ : ∃ r, r = (k + j) % 8 := ⟨_, rfl⟩
            have f1 : ((k : Int) + j) / 8 = (p : Int) := by omega
            have f2 : ((k : Int) + j) % 8 = (r : Int) := by omega
            have hpL : p < L := by omega
            have hr8 : r ≤ 7 := by omega
            obtain ⟨hc, hf⟩ := hbt p (by rw [hll]; exact hpL)
            have HP := Lib.hid hp
            have HR := Lib.hid hr
            have HLL := Lib.hid hll
            have HN := Lib.hid hnum
            have HBI := Lib.hid hb1
            have HBT2 := Lib.hid hbt
            have HBX2 := Lib.hid hbx
            clear hp hr hll hnum hb1 hbt hbx
            go_wp2
            go_region
            go_wp2
            go_roundw
            case rel =>
              obtain ⟨l2, h1, h2, h3⟩ := flip_step HLL.out HP.out HR.out hin HBI.out HN.out HBT2.out
              exact ⟨j + 1, l2, by omega, by go_num, h1, h2, h3, (HBX2.out.setCell hg _).drew⟩
            case measure => simp [intOf]; omega
          · have hst := turned_still k y (8 * L) j (Or.inr (by omega))
            have HN := Lib.hid hnum
            have HST := Lib.hid hst
            have HLL := Lib.hid hll
            have HBT2 := Lib.hid hbt
            have HBX2 := Lib.hid hbx
            clear hnum hst hb1 hll hbt hbx
            go_wp2
            go_roundw
            case rel => exact ⟨j + 1, l, by omega, by go_num, HLL.out, by rw [HST.out]; exact HN.out, HBT2.out, HBX2.out⟩
            case measure => simp [intOf]; omega
        · have hb0 : y / 2 ^ j % 2 = 0 := by omega
          rw [hb0] at hbit
          have hst := turned_still k y (8 * L) j (Or.inl hb0)
          have HN := Lib.hid hnum
          have HST := Lib.hid hst
          have HLL := Lib.hid hll
          have HBT2 := Lib.hid hbt
          have HBX2 := Lib.hid hbx
          clear hnum hst hb1 hb0 hll hbt hbx
          go_wp2
          go_roundw
          case rel => exact ⟨j + 1, l, by omega, by go_num, HLL.out, by rw [HST.out]; exact HN.out, HBT2.out, HBX2.out⟩
          case measure => simp [intOf]; omega
      · have ej : j = 32 := by omega
        subst ej
        have HN := Lib.hid hnum
        have HLL := Lib.hid hll
        have HBT2 := Lib.hid hbt
        have HBX2 := Lib.hid hbx
        clear hnum hll hbt hbx
        go_upto_region 13 with (fail)
        go_cut [66] from 62 (fun v wx => ∃ bb : Bool, v = .bool bb ∧ (bb = true ↔ l = m) ∧ Bts wx g l ∧ Below w.heap.size w wx)
        case first =>
          have hgl : g < wr.heap.size := HBT2.out.lt (by have := HLL.out; omega)
          have HBD : Bts wr.drew g l := HBT2.out
          have hcv := HBD.string (cap := cap)
          have HBD2 := Lib.hid HBD
          clear HBD
          rw [HLL.out] at hcv
          go_region_with (first
            | (go_at_call 25; go_must (refine (K1.out _).mono ?_); rintro e w2 ⟨rfl, hb2⟩; have hcv2 := (HBD2.out.below hb2 hgl).string (cap := cap); rw [HLL.out] at hcv2))
          all_goals
            have hbb := ‹Below wr.drew.heap.size wr.drew _›
            have HBB := Lib.hid hbb
            clear hbb
            go_wp2
            go_meet
            case rel => exact ⟨_, rfl, by rw [toList_str, toList_str, beq_iff_eq], HBD2.out.below HBB.out hgl, HBX2.out.drew.trans (HBB.out.mono HBX2.out.size)⟩
        case rest =>
          obtain ⟨bb, rfl, hem, hbt, hbx⟩ := hcut
          have hcv := hbt.string (cap := cap)
          rw [HLL.out] at hcv
          have HBX3 := Lib.hid hbx
          clear hbt hbx
          match bb, hem with
          | true, _ =>
            go_wp2
            go_ret
            exact ⟨rfl, HBX3.out⟩
          | false, hem =>
            have hne : ¬ l = m := fun h => by have := hem.2 h; cases this
            have k2 := fun w => check_bad (str l) w s.size (by rw [size_str, HLL.out, HL.out]) (by rw [size_str, HLL.out]; omega) (burst_bad l m k y s.size s.data.toList HM.out (by rw [HLL.out, HL.out]) (by simp) (by rw [HLL.out]; omega) HY.out hne (by rw [HLL.out]; exact HN.out))
            have K2 := Lib.hid k2
            clear k2 hem hne
            go_wp2_with (first
              | (go_at_call 26; go_must (refine (K2.out _).mono ?_); rintro e w2 ⟨rfl, hb2⟩))
            go_ret
            exact ⟨rfl, HBX3.out.trans (hb2.mono HBX3.out.size)⟩

theorem sumBursts_walk (s : ByteArray) (a y : Nat) (ha : a < 65536) (hy : y < 4294967296) (w : World) :
    Calls Try.prog 8 #[.string s, .int .u16 a, .int .u32 y] w fun e w' => e = .returned (.bool true) ∧ Below w.heap.size w w' := by
  by_cases h : 500 < s.size
  · exact sumBursts_great s a y h w
  · by_cases h0 : y = 0
    · subst h0; exact sumBursts_still s a (by omega) w
    · exact sumBursts_fine s a y (by omega) ha (by omega) hy w
end Go.Proofs.Ytffjmdgpkaiajaa
