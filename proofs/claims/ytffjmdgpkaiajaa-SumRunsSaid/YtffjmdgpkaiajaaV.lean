/- Walk of the law SumRuns. -/
import Derived.Test.YtffjmdgpkaiajaaU
namespace Go.Proofs.Ytffjmdgpkaiajaa
open Go.RowKit

theorem one_at (W : World) (g : Nat) (c : Nat) (hc : c < 256) (h : W.cell? ⟨g, 0, none⟩ = some (.int .u8 (c : Int))) :
    (convert 46 9 (.slice (some ⟨g, 0, none⟩) 1 1)).run Try.prog W = .ok (.string (str [UInt8.ofNat c])) W := by
  refine run_convert_bytes_back (P := Try.prog) W 46 9 5 ⟨g, 0, none⟩ 1 [UInt8.ofNat c] Try.underlying46 Try.underlying5 Try.underlying9 ?_
  intro j hj
  match j, hj with
  | 0, _ => simp [Addr.add, h, Nat.mod_eq_of_lt hc]

theorem not_crc (l : List UInt8) : bits BinOp.xor IntKind.u32 IntKind.u32.max (crcV l : Int) = (crc0 l : Int) := by
  have h := u32_xor_nat 4294967295 (crcV l) (by omega) (crcV_lt l)
  rw [not32 _ (crcV_lt l)] at h
  have c := crc0_lt l
  have e : 4294967295 - crcV l = crc0 l := by unfold crcV; omega
  rw [e] at h
  exact h

theorem sumRuns_great (s : ByteArray) (a b : Nat) (h : 500 < s.size) (w : World) :
    Calls Try.prog 9 #[.string s, .int .u8 a, .int .u8 b] w fun e w' => e = .returned (.bool true) ∧ Below w.heap.size w w' := by
  have hB := Below.refl w.heap.size w
  go_enter Try.func9, Try.ntmps9
  go_wp2_with (first
    | (go_at_call 19; go_must (refine (awake2_any _).mono ?_); rintro e w1 ⟨rfl, hb1⟩; replace hB := hB.trans (hb1.mono hB.size)))
  go_ret
  exact ⟨rfl, hB⟩

set_option maxHeartbeats 1000000 in
theorem sumRuns_fine (s : ByteArray) (a b : Nat) (h5 : s.size ≤ 500) (ha : a < 256) (hb : b < 256) (w : World) :
    Calls Try.prog 9 #[.string s, .int .u8 a, .int .u8 b] w fun e w' => e = .returned (.bool true) ∧ Below w.heap.size w w' := by
  have hB := Below.refl w.heap.size w
  go_enter Try.func9, Try.ntmps9
  go_upto_region 5 with (first
    | (go_at_call 19; go_must (refine (awake2_any _).mono ?_); rintro e w1 ⟨rfl, hb1⟩; replace hB := hB.trans (hb1.mono hB.size)))
  go_cut [7, 8] from 14 (fun v7 v8 wx => v7 = .string (str (s.data.toList ++ [UInt8.ofNat a])) ∧ v8 = .string (str (s.data.toList ++ [UInt8.ofNat b])) ∧ Below w.heap.size w wx)
  case first =>
    have f1 := one_at (w1.alloc (.cells #[.int .u8 (a : Int)] 5)).drew w1.heap.size a ha (by simp)
    have f2 := one_at ((w1.alloc (.cells #[.int .u8 (a : Int)] 5)).alloc (.cells #[.int .u8 (b : Int)] 5)).drew w1.heap.size a ha (by simp)
    have f3 := one_at ((w1.alloc (.cells #[.int .u8 (a : Int)] 5)).alloc (.cells #[.int .u8 (b : Int)] 5)).drew (w1.heap.size + 1) b hb (by simp)
    have f4 := one_at (w1.alloc (.cells #[.int .u8 (b : Int)] 5)).drew w1.heap.size b hb (by simp)
    have f5 := one_at ((w1.alloc (.cells #[.int .u8 (b : Int)] 5)).alloc (.cells #[.int .u8 (a : Int)] 5)).drew w1.heap.size b hb (by simp)
    have f6 := one_at ((w1.alloc (.cells #[.int .u8 (b : Int)] 5)).alloc (.cells #[.int .u8 (a : Int)] 5)).drew (w1.heap.size + 1) a ha (by simp)
    have g1 := fun W => run_add_str s [UInt8.ofNat a] (by simp; omega) W
    have g2 := fun W => run_add_str s [UInt8.ofNat b] (by simp; omega) W
    go_region
    all_goals
      go_wp2
      go_meet
      case rel => exact ⟨rfl, rfl, ((hB.alloc hB.size _).alloc (by have := hB.size; simp; omega) _).drew⟩
  case rest =>
    obtain ⟨rfl, rfl, hbx⟩ := hcut
    clear hB hb1
    obtain ⟨l, hl⟩ : ∃ l, l = s.data.toList := ⟨_, rfl⟩
    have hlen : l.length = s.size := by rw [hl]; simp
    rw [← hl]
    have hx : (str (l ++ [UInt8.ofNat a])).size ≤ 1000000000 := by rw [size_str]; simp; omega
    have hy : (str (l ++ [UInt8.ofNat b])).size ≤ 1000000000 := by rw [size_str]; simp; omega
    have k1 := fun w g hg => crc_one (str (l ++ [UInt8.ofNat a])) w g hg hx
    have k2 := fun w g hg => crc_one s w g hg (by omega)
    have k3 := fun w g hg => crc_one (str (l ++ [UInt8.ofNat b])) w g hg hy
    have k4 := fun w g hg => quick_one (str (l ++ [UInt8.ofNat a])) w g hg hx
    have k5 := fun w g hg => quick_one (str (l ++ [UInt8.ofNat b])) w g hg hy
    have k6 := fun w => mark_any s w (by omega)
    have k7 := fun w => step_any (crc0 l) a (crc0_lt l) ha w
    rw [data_str] at k1 k3 k4 k5
    rw [← hl] at k2 k6
    have eA : (UInt8.ofNat a).toNat = a := by rw [UInt8.toNat_ofNat', Nat.mod_eq_of_lt ha]
    have eB : (UInt8.ofNat b).toNat = b := by rw [UInt8.toNat_ofNat', Nat.mod_eq_of_lt hb]
    have e1 : crc0 (l ++ [UInt8.ofNat a]) = stepN (crc0 l) a := by unfold crc0; rw [runN_snoc, eA]
    have e2 : crc0 (l ++ [UInt8.ofNat b]) = stepN (crc0 l) b := by unfold crc0; rw [runN_snoc, eB]
    have e3 : quick0 (l ++ [UInt8.ofNat a]) = quickStep (quick0 l) a := by unfold quick0; rw [quickRun_snoc, eA]
    have e4 : quick0 (l ++ [UInt8.ofNat b]) = quickStep (quick0 l) b := by unfold quick0; rw [quickRun_snoc, eB]
    have n1 := not_crc (l ++ [UInt8.ofNat a])
    have n2 := not_crc l
    have q1 : ((quick0 (l ++ [UInt8.ofNat a]) : Int) == (quick0 (l ++ [UInt8.ofNat b]) : Int)) = ((a : Int) == (b : Int)) := by
      rw [Bool.eq_iff_iff, beq_iff_eq, beq_iff_eq]
      constructor
      · intro h
        have h' : quick0 (l ++ [UInt8.ofNat a]) = quick0 (l ++ [UInt8.ofNat b]) := by omega
        rw [e3, e4] at h'
        have := quickStep_inj' _ _ _ (quick0_lt l) ha hb h'
        omega
      · intro h
        have h' : a = b := by omega
        rw [h']
    have q2 : ((crcV (l ++ [UInt8.ofNat a]) : Int) == (crcV (l ++ [UInt8.ofNat b]) : Int)) = ((a : Int) == (b : Int)) := by
      rw [Bool.eq_iff_iff, beq_iff_eq, beq_iff_eq]
      constructor
      · intro h
        have c1 := crc0_lt (l ++ [UInt8.ofNat a])
        have c2 := crc0_lt (l ++ [UInt8.ofNat b])
        have h' : crc0 (l ++ [UInt8.ofNat a]) = crc0 (l ++ [UInt8.ofNat b]) := by unfold crcV at h; omega
        rw [e1, e2] at h'
        have := stepN_inj' _ _ _ (crc0_lt l) ha hb h'
        omega
      · intro h
        have h' : a = b := by omega
        rw [h']
    have hm : ((str (markL l)).size : Int) = (s.size : Int) + 4 := by rw [size_str]; simp [markL, le4_length]; omega
    rw [← e1] at k7
    clear e1 e2 e3 e4 eA eB hx hy hl hlen
    generalize str (l ++ [UInt8.ofNat a]) = X at *
    generalize str (l ++ [UInt8.ofNat b]) = Y at *
    generalize quick0 (l ++ [UInt8.ofNat a]) = QX at *
    generalize quick0 (l ++ [UInt8.ofNat b]) = QY at *
    generalize crcV (l ++ [UInt8.ofNat a]) = CX at *
    generalize crcV (l ++ [UInt8.ofNat b]) = CY at *
    generalize crc0 (l ++ [UInt8.ofNat a]) = RX at *
    generalize crcV l = CS at *
    generalize crc0 l = RS at *
    generalize str (markL l) = M at *
    have K1 := Lib.hid k1
    have K2 := Lib.hid k2
    have K3 := Lib.hid k3
    have K4 := Lib.hid k4
    have K5 := Lib.hid k5
    have K6 := Lib.hid k6
    have K7 := Lib.hid k7
    have hB := hbx
    clear k1 k2 k3 k4 k5 k6 k7 hbx
    go_wp2_with (first
      | (go_at_call 20; ((with_reducible refine (K1.out _ _ (by simp)).mono ?_); rintro e w2 ⟨rfl, rfl⟩))
      | (go_at_call 20; ((with_reducible refine (K2.out _ _ (by simp)).mono ?_); rintro e w2 ⟨rfl, rfl⟩))
      | (go_at_call 20; ((with_reducible refine (K3.out _ _ (by simp)).mono ?_); rintro e w2 ⟨rfl, rfl⟩))
      | (go_at_call 22; ((with_reducible refine (K4.out _ _ (by simp)).mono ?_); rintro e w2 ⟨rfl, rfl⟩))
      | (go_at_call 22; ((with_reducible refine (K5.out _ _ (by simp)).mono ?_); rintro e w2 ⟨rfl, rfl⟩))
      | (go_at_call 25; ((with_reducible refine (K6.out _).mono ?_); rintro e w2 ⟨rfl, hb2⟩))
      | (go_at_call 24; ((with_reducible refine (K7.out _).mono ?_); rintro e w2 ⟨rfl, rfl⟩)))
    go_ret
    exact ⟨rfl, ((((((hB.alloc hB.size _).alloc (by have := hB.size; simp; omega) _).alloc (by have := hB.size; simp; omega) _).alloc (by have := hB.size; simp; omega) _).alloc (by have := hB.size; simp; omega) _).alloc (by have := hB.size; simp; omega) _).trans (hb2.mono (by have := hB.size; simp; omega))⟩

theorem sumRuns_walk (s : ByteArray) (a b : Nat) (ha : a < 256) (hb : b < 256) (w : World) :
    Calls Try.prog 9 #[.string s, .int .u8 a, .int .u8 b] w fun e w' => e = .returned (.bool true) ∧ Below w.heap.size w w' := by
  by_cases h : 500 < s.size
  · exact sumRuns_great s a b h w
  · exact sumRuns_fine s a b (by omega) ha hb w
end Go.Proofs.Ytffjmdgpkaiajaa
