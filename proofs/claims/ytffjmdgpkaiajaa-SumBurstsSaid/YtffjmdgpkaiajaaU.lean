/- Walk of the law SumTurned. -/
import Derived.Test.YtffjmdgpkaiajaaT
import Derived.Test.YtffjmdgpkaiajaaP
namespace Go.Proofs.Ytffjmdgpkaiajaa
open Go.RowKit

theorem set_split (l : List UInt8) (k : Nat) (h : k < l.length) (x : UInt8) : l = l.take k ++ ([l[k]] ++ l.drop (k + 1)) ∧ l.set k x = l.take k ++ ([x] ++ l.drop (k + 1)) := by
  refine ⟨?_, ?_⟩
  · simp
  · rw [List.set_eq_take_append_cons_drop, if_pos h]; rfl
theorem crc_set (l : List UInt8) (k : Nat) (h : k < l.length) (x : UInt8) (hx : x ≠ l[k]) : crcV (l.set k x) ≠ crcV l := by
  obtain ⟨h1, h2⟩ := set_split l k h x
  intro he
  have he' : crc0 (l.set k x) = crc0 l := by
    have a := crc0_lt (l.set k x)
    have b := crc0_lt l
    unfold crcV at he
    omega
  rw [h2] at he'
  rw [show crc0 l = crc0 (l.take k ++ ([l[k]] ++ l.drop (k + 1))) from congrArg crc0 h1] at he'
  unfold crc0 at he'
  rw [runN_append, runN_append, runN_append, runN_append] at he'
  have ha := runN_lt (l.take k) 4294967295 (by omega)
  have := runN_inj _ _ _ (runN_lt [x] _ ha) (runN_lt [l[k]] _ ha) he'
  have := stepN_inj' _ _ _ ha x.toNat_lt (l[k]).toNat_lt this
  exact hx (UInt8.toNat_inj.1 this)
theorem quick_set (l : List UInt8) (k : Nat) (h : k < l.length) (x : UInt8) (hx : x ≠ l[k]) : quick0 (l.set k x) ≠ quick0 l := by
  obtain ⟨h1, h2⟩ := set_split l k h x
  intro he'
  rw [h2] at he'
  rw [show quick0 l = quick0 (l.take k ++ ([l[k]] ++ l.drop (k + 1))) from congrArg quick0 h1] at he'
  unfold quick0 at he'
  rw [quickRun_append, quickRun_append, quickRun_append, quickRun_append] at he'
  have ha := quickRun_lt (l.take k) 14695981039346656037 (by omega)
  have h5 := quickRun_inj _ _ _ (quickRun_lt [x] _ ha) (quickRun_lt [l[k]] _ ha) he'
  generalize quickRun 14695981039346656037 (l.take k) = a at *
  have e : ∀ y : UInt8, quickRun a [y] = quickStep a y.toNat := fun y => quickRun_snoc a [] y
  rw [e, e] at h5
  have := quickStep_inj' _ _ _ ha x.toNat_lt (l[k]).toNat_lt h5
  exact hx (UInt8.toNat_inj.1 this)

theorem wf16 {a : Int} (h : (Lit.int .u16 a).wf = true) : 0 ≤ a ∧ a < 65536 := by
  simp [Lit.wf, IntKind.min, IntKind.max, IntKind.signed, IntKind.bits] at h
  omega
theorem size_zero {s : ByteArray} (h : s.size = 0) : s = ByteArray.empty := by
  apply ByteArray.ext
  exact Array.eq_empty_of_size_eq_zero h

theorem sumTurned_none (a b : Nat) (w : World) :
    Calls Try.prog 10 #[.string ByteArray.empty, .int .u16 a, .int .u8 b] w fun e w' => e = .returned (.bool true) ∧ Below w.heap.size w w' := by
  have hB := Below.refl w.heap.size w
  go_enter Try.func10, Try.ntmps10
  go_wp2_with (first
    | (go_at_call 19; go_must (refine (awake2_any _).mono ?_); rintro e w1 ⟨rfl, hb1⟩; replace hB := hB.trans (hb1.mono hB.size)))
  go_ret
  exact ⟨rfl, hB⟩

theorem sumTurned_great (s : ByteArray) (a b : Nat) (h : 500 < s.size) (w : World) :
    Calls Try.prog 10 #[.string s, .int .u16 a, .int .u8 b] w fun e w' => e = .returned (.bool true) ∧ Below w.heap.size w w' := by
  have hB := Below.refl w.heap.size w
  have hz : ((s.size : Int) == 0) = false := by rw [beq_eq_false_iff_ne]; omega
  have hne : ¬ s = ByteArray.empty := by rintro rfl; simp at h
  go_enter Try.func10, Try.ntmps10
  go_wp2_with (first
    | (go_at_call 19; go_must (refine (awake2_any _).mono ?_); rintro e w1 ⟨rfl, hb1⟩; replace hB := hB.trans (hb1.mono hB.size)))
  go_ret
  exact ⟨rfl, hB⟩

theorem sumTurned_still (s : ByteArray) (a : Nat) (h0 : 1 ≤ s.size) (h : s.size ≤ 500) (w : World) :
    Calls Try.prog 10 #[.string s, .int .u16 a, .int .u8 0] w fun e w' => e = .returned (.bool true) ∧ Below w.heap.size w w' := by
  have hB := Below.refl w.heap.size w
  have hz : ((s.size : Int) == 0) = false := by rw [beq_eq_false_iff_ne]; omega
  have hne : ¬ s = ByteArray.empty := by rintro rfl; simp at h0
  go_enter Try.func10, Try.ntmps10
  go_wp2_with (first
    | (go_at_call 19; go_must (refine (awake2_any _).mono ?_); rintro e w1 ⟨rfl, hb1⟩; replace hB := hB.trans (hb1.mono hB.size)))
  go_ret
  exact ⟨rfl, hB⟩

theorem sumTurned_fine (s : ByteArray) (a b : Nat) (h0 : 1 ≤ s.size) (h5 : s.size ≤ 500) (ha : a < 65536) (hb0 : 1 ≤ b) (hb : b < 256) (w : World) :
    Calls Try.prog 10 #[.string s, .int .u16 a, .int .u8 b] w fun e w' => e = .returned (.bool true) ∧ Below w.heap.size w w' := by
  have hB := Below.refl w.heap.size w
  obtain ⟨k, hk⟩ : ∃ k, k = a % s.size := ⟨_, rfl⟩
  have hks : k < s.size := by rw [hk]; exact Nat.mod_lt _ (by omega)
  have e1 : (a : Int) % (s.size : Int) = (k : Int) := by rw [hk]; simp
  have hz : ((s.size : Int) == 0) = false := by rw [beq_eq_false_iff_ne]; omega
  have hbz : ((b : Int) == 0) = false := by rw [beq_eq_false_iff_ne]; omega
  have hne : ¬ s = ByteArray.empty := by rintro rfl; simp at h0
  clear hk
  go_enter Try.func10, Try.ntmps10
  go_upto_region 5 with (first
    | (go_at_call 19; go_must (refine (awake2_any _).mono ?_); rintro e w1 ⟨rfl, hb1⟩; replace hB := hB.trans (hb1.mono hB.size)))
  go_cut [7] from 22 (fun v wx => ∃ g cap, v = .slice (some ⟨g, 0, none⟩) s.size cap ∧ w.heap.size ≤ g ∧ Bts wx g s.data.toList ∧ Below w.heap.size w wx)
  case first =>
    obtain ⟨cap, w2, hrun, hbt, hb2, hlt⟩ := bytes_of w1 s
    have HBT := Lib.hid hbt
    have HB2 := Lib.hid hb2
    clear hbt hb2
    go_wp2
    go_meet
    case rel => exact ⟨w1.heap.size, cap, rfl, hB.size, HBT.out, hB.trans (HB2.out.mono hB.size)⟩
  case rest =>
    obtain ⟨g, cap, rfl, hg, hbt, hbx⟩ := hcut
    clear hB hb1
    obtain ⟨l, hl⟩ : ∃ l, l = s.data.toList := ⟨_, rfl⟩
    have hlen : l.length = s.size := by rw [hl]; simp
    rw [← hl] at hbt
    have hkl : k < l.length := by omega
    obtain ⟨hc, hf⟩ := hbt k hkl
    have hx : bits BinOp.xor IntKind.u8 ((l.getD k 0).toNat : Int) (b : Int) = (((UInt8.ofNat ((l.getD k 0).toNat ^^^ b)).toNat : Nat) : Int) := by
      have hcl := (l.getD k 0).toNat_lt
      have h1 : (l.getD k 0).toNat ^^^ b < 256 := Nat.xor_lt_two_pow (n := 8) hcl hb
      rw [u8_xor_nat _ _ hcl hb, UInt8.toNat_ofNat', Nat.mod_eq_of_lt h1]
    have hne2 : UInt8.ofNat ((l.getD k 0).toNat ^^^ b) ≠ l[k] := by
      have e : l.getD k 0 = l[k] := by simp [List.getD, hkl]
      rw [e]
      intro h
      have hcl := l[k].toNat_lt
      have h1 : l[k].toNat ^^^ b < 256 := Nat.xor_lt_two_pow (n := 8) hcl hb
      have h2 := congrArg UInt8.toNat h
      rw [UInt8.toNat_ofNat', Nat.mod_eq_of_lt h1] at h2
      have h3 : l[k].toNat ^^^ b = l[k].toNat ^^^ 0 := by rw [Nat.xor_zero]; exact h2
      have := xor_cancel' b 0 _ h3
      omega
    have hv1 := crc_set l k hkl _ hne2
    have hv2 := quick_set l k hkl _ hne2
    generalize UInt8.ofNat ((l.getD k 0).toNat ^^^ b) = x at *
    have hbt2 := hbt.set k hkl (x.toNat : Int) x rfl
    generalize (l.getD k 0).toNat = c at *
    have HBT := Lib.hid hbt2
    have HBX := Lib.hid hbx
    have HV1 := Lib.hid hv1
    have HV2 := Lib.hid hv2
    have HLEN := Lib.hid hlen
    have HL := Lib.hid hl
    clear hbt hbt2 hbx hv1 hv2 hlen hl hne2 hkl
    go_upto_region 6 with (fail)
    go_cut [] from 24 (fun wx => Bts wx g (l.set k x) ∧ Below w.heap.size w wx)
    case first =>
      go_wp2
      go_meet
      case rel => exact ⟨HBT.out, HBX.out.setCell hg _⟩
    case rest =>
      obtain ⟨hbt, hbx⟩ := hcut
      clear hc hf hx e1 HBX HBT
      have hlen2 : (l.set k x).length = s.size := by rw [List.length_set, HLEN.out]
      have hcv0 := hbt.string (cap := cap)
      have hcv2 := fun A B => ((hbt.alloc A).alloc B).string (cap := cap)
      rw [hlen2] at hcv0 hcv2
      have k1 := fun w g hg => crc_one (str (l.set k x)) w g hg (by rw [size_str, hlen2]; omega)
      have k2 := fun w g hg => crc_one s w g hg (by omega)
      have k3 := fun w g hg => quick_one (str (l.set k x)) w g hg (by rw [size_str, hlen2]; omega)
      have k4 := fun w g hg => quick_one s w g hg (by omega)
      rw [data_str] at k1 k3
      rw [← HL.out] at k2 k4
      have hv1 := HV1.out
      have hv2 := HV2.out
      generalize crcV (l.set k x) = V1 at *
      generalize quick0 (l.set k x) = Q1 at *
      generalize crcV l = V2 at *
      generalize quick0 l = Q2 at *
      have f1 : ((V1 : Int) == V2) = false := by rw [beq_eq_false_iff_ne]; omega
      have f2 : ((V1 : Int) != V2) = true := by rw [bne, f1]; rfl
      have f3 : ((Q1 : Int) == Q2) = false := by rw [beq_eq_false_iff_ne]; omega
      have f4 : ((Q1 : Int) != Q2) = true := by rw [bne, f3]; rfl
      have K1 := Lib.hid k1
      have K2 := Lib.hid k2
      have K3 := Lib.hid k3
      have K4 := Lib.hid k4
      have HBX := Lib.hid hbx
      clear k1 k2 k3 k4 hv1 hv2 HV1 HV2 hbt hlen2 HLEN HL hbx
      go_wp2_with (first
        | (go_at_call 20; ((with_reducible refine (K1.out _ _ (by simp)).mono ?_); rintro e w2 ⟨rfl, rfl⟩))
        | (go_at_call 20; ((with_reducible refine (K2.out _ _ (by simp)).mono ?_); rintro e w2 ⟨rfl, rfl⟩))
        | (go_at_call 22; ((with_reducible refine (K3.out _ _ (by simp)).mono ?_); rintro e w2 ⟨rfl, rfl⟩))
        | (go_at_call 22; ((with_reducible refine (K4.out _ _ (by simp)).mono ?_); rintro e w2 ⟨rfl, rfl⟩)))
      go_ret
      exact ⟨rfl, (((HBX.out.alloc HBX.out.size _).alloc (by have := HBX.out.size; simp; omega) _).alloc (by have := HBX.out.size; simp; omega) _).alloc (by have := HBX.out.size; simp; omega) _⟩

theorem sumTurned_walk (s : ByteArray) (a b : Nat) (ha : a < 65536) (hb : b < 256) (w : World) :
    Calls Try.prog 10 #[.string s, .int .u16 a, .int .u8 b] w fun e w' => e = .returned (.bool true) ∧ Below w.heap.size w w' := by
  by_cases h0 : s.size = 0
  · rw [size_zero h0]; exact sumTurned_none a b w
  · by_cases h5 : 500 < s.size
    · exact sumTurned_great s a b h5 w
    · by_cases hb0 : b = 0
      · subst hb0; exact sumTurned_still s a (by omega) (by omega) w
      · exact sumTurned_fine s a b (by omega) (by omega) ha (by omega) hb w
end Go.Proofs.Ytffjmdgpkaiajaa
