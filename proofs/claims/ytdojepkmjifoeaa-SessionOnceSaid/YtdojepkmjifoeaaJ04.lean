/- YtdojepkmjifoeaaN; YtdojepkmjifoeaaO; YtdojepkmjifoeaaQ -/
import Derived.Test.YtdojepkmjifoeaaJ03
import Derived.Test.YtdojepkmjifoeaaJ01
set_option linter.unusedVariables false
set_option linter.unusedSimpArgs false
namespace Go.Proofs.Ytdojepkmjifoeaa
open Go.RowKit

theorem xor_spell (n c : Nat) (hn : n < 4294967296) (hc : c < 256) : bits BinOp.xor IntKind.u32 (n : Int) ((c : Int) % 4294967296) = ((n ^^^ c : Nat) : Int) := by
  rw [show (c : Int) % 4294967296 = c by omega, u32_xor_nat n c hn (by omega)]
theorem bit_odd' (m : Nat) (h : m < 4294967296) (ho : m % 2 = 1) : (m : Int) % 2 = 1 ∧ bits BinOp.xor IntKind.u32 ((m : Int) / 2 % 4294967296) 2197175160 = (bit m : Int) := ⟨by omega, by rw [show (m : Int) / 2 % 4294967296 = (m : Int) / 2 by omega]; exact (bit_odd m h ho).2⟩
theorem bit_even' (m : Nat) (h : m < 4294967296) (ho : ¬ m % 2 = 1) : (m : Int) % 2 = 0 ∧ (m : Int) / 2 % 4294967296 = (bit m : Int) := ⟨by omega, by rw [show (m : Int) / 2 % 4294967296 = (m : Int) / 2 by omega]; exact (bit_even m h ho).2⟩

set_option maxHeartbeats 1000000 in
theorem rcrc_any (p : ByteArray) (w : World) (hp : p.size ≤ 1000000000) :
    Calls Try.prog 67 #[.string p] w fun e w' => e = .returned (.int .u32 (4294967295 - crc0 p.data.toList : Nat)) ∧ w = w' := by
  go_enter Try.func67, Try.ntmps67
  go_wp2
  go_loop [3, 4] (fun n i => ∃ j : Nat, j ≤ p.size ∧ i = .int .i64 j ∧ n = .int .u32 (crc0 (p.data.toList.take j))) (fun _ i => p.size - (intOf i).toNat)
  case atStart => exact ⟨0, Nat.zero_le _, rfl, rfl⟩
  case round =>
    obtain ⟨j, hj, rfl, rfl⟩ := hrel
    by_cases hjl : j < p.size
    · have hxr := xor_spell (crc0 (p.data.toList.take j)) p[j].toNat (crc0_lt _) p[j].toNat_lt
      have hm0 := xor_lt (crc0 (p.data.toList.take j)) p[j].toNat (crc0_lt _) (by have := p[j].toNat_lt; omega)
      have e : bitN 8 (crc0 (p.data.toList.take j) ^^^ p[j].toNat) = crc0 (p.data.toList.take (j + 1)) := by
        rw [take_snoc p j hjl]
        unfold crc0
        rw [runN_snoc]; rfl
      generalize crc0 (p.data.toList.take j) ^^^ p[j].toNat = m0 at *
      have HE := Lib.hid e
      have HM0 := Lib.hid hm0
      clear e hm0
      go_wp2
      go_loop [3, 5] (fun n i => ∃ k m : Nat, k ≤ 8 ∧ i = .int .i64 k ∧ n = .int .u32 m ∧ m < 4294967296 ∧ bitN (8 - k) m = crc0 (p.data.toList.take (j + 1))) (fun _ i => 8 - (intOf i).toNat)
      case atStart => exact ⟨0, _, Nat.zero_le _, rfl, rfl, HM0.out, HE.out⟩
      case round =>
        obtain ⟨k, m, hk, rfl, rfl, hm, hb⟩ := hrel
        have HB := Lib.hid hb
        have HM := Lib.hid hm
        clear hb
        by_cases hk8 : k < 8
        · by_cases ho : m % 2 = 1
          · obtain ⟨f1, f2⟩ := bit_odd' m hm ho
            clear ho hm
            go_wp2
            go_round
            case rel => exact ⟨k + 1, bit m, by omega, by go_num, rfl, bit_lt m HM.out, by rw [← HB.out, show 8 - k = (8 - (k + 1)) + 1 by omega]; rfl⟩
            case measure => simp [intOf]; omega
          · obtain ⟨f1, f2⟩ := bit_even' m hm ho
            clear ho hm
            go_wp2
            go_round
            case rel => exact ⟨k + 1, bit m, by omega, by go_num, by rw [f2], bit_lt m HM.out, by rw [← HB.out, show 8 - k = (8 - (k + 1)) + 1 by omega]; rfl⟩
            case measure => simp [intOf]; omega
        · clear hm
          go_wp2
          go_round
          case rel =>
            refine ⟨j + 1, by omega, by go_num, ?_⟩
            rw [← HB.out, show 8 - k = 0 by omega]; rfl
          case measure => simp [intOf]; omega
    · go_wp2
      go_ret
      refine ⟨?_, rfl⟩
      have e : j = p.size := by omega
      subst e
      rw [List.take_of_length_le (by simp)]
      have hl := crc0_lt p.data.toList
      have h : (4294967295 - (crc0 p.data.toList : Int)) % 4294967296 = ((4294967295 - crc0 p.data.toList : Nat) : Int) := by omega
      exact congrArg (fun x => Ending.returned (.int .u32 x)) h

end Go.Proofs.Ytdojepkmjifoeaa

namespace Go.Proofs.Ytdojepkmjifoeaa
open Go.RowKit

/-- The CRC of a list of bytes. -/
def crcV (l : List UInt8) : Nat := 4294967295 - crc0 l
theorem crcV_lt (l : List UInt8) : crcV l < 4294967296 := by unfold crcV; omega

theorem cell_new (w : World) (cs : Array Value) (t : TypeId) (j : Nat) : (w.alloc (.cells cs t)).cell? ⟨w.heap.size, j, none⟩ = cs[j]? := World.cell?_alloc_new w cs t j

theorem parts_one (w : World) (s : ByteArray) : Parts (w.alloc (.cells #[.string s] 9)) w.heap.size [s] := by
  intro j hj
  rw [cell_new]
  match j, hj with
  | 0, _ => rfl
theorem parts_two (w : World) (s t : ByteArray) : Parts (w.alloc (.cells #[.string s, .string t] 9)) w.heap.size [s, t] := by
  intro j hj
  rw [cell_new]
  match j, hj with
  | 0, _ => rfl
  | 1, _ => rfl
theorem parts_three (w : World) (s t u : ByteArray) : Parts (w.alloc (.cells #[.string s, .string t, .string u] 9)) w.heap.size [s, t, u] := by
  intro j hj
  rw [cell_new]
  match j, hj with
  | 0, _ => rfl
  | 1, _ => rfl
  | 2, _ => rfl
theorem sizes_one {s : ByteArray} (h : s.size ≤ 1000000000) : ∀ j, ([s].getD j ByteArray.empty).size ≤ 1000000000 := by
  intro j
  match j with
  | 0 => exact h
  | _ + 1 => exact Nat.zero_le _
theorem sizes_two {s t : ByteArray} (h : s.size ≤ 1000000000) (h2 : t.size ≤ 1000000000) : ∀ j, ([s, t].getD j ByteArray.empty).size ≤ 1000000000 := by
  intro j
  match j with
  | 0 => exact h
  | 1 => exact h2
  | _ + 2 => exact Nat.zero_le _
theorem sizes_three {s t u : ByteArray} (h : s.size ≤ 1000000000) (h2 : t.size ≤ 1000000000) (h3 : u.size ≤ 1000000000) : ∀ j, ([s, t, u].getD j ByteArray.empty).size ≤ 1000000000 := by
  intro j
  match j with
  | 0 => exact h
  | 1 => exact h2
  | 2 => exact h3
  | _ + 3 => exact Nat.zero_le _

theorem crc_one (s : ByteArray) (w : World) (g : Nat) (hg : g = w.heap.size) (h : s.size ≤ 1000000000) :
    Calls Try.prog 82 #[.slice (some ⟨g, 0, none⟩) 1 1] (w.alloc (.cells #[.string s] 9)) fun e w' => e = .returned (.int .u32 (crcV s.data.toList)) ∧ w.alloc (.cells #[.string s] 9) = w' := by
  subst hg
  have := crc_any [s] w.heap.size 1 (w.alloc (.cells #[.string s] 9)) (by simp) (sizes_one h) (parts_one w s)
  rw [show flat [s] = s.data.toList by simp [flat]] at this
  exact this
theorem crc_two (s t : ByteArray) (w : World) (g : Nat) (hg : g = w.heap.size) (h : s.size ≤ 1000000000) (h2 : t.size ≤ 1000000000) :
    Calls Try.prog 82 #[.slice (some ⟨g, 0, none⟩) 2 2] (w.alloc (.cells #[.string s, .string t] 9)) fun e w' => e = .returned (.int .u32 (crcV (s.data.toList ++ t.data.toList))) ∧ w.alloc (.cells #[.string s, .string t] 9) = w' := by
  subst hg
  have := crc_any [s, t] w.heap.size 2 (w.alloc (.cells #[.string s, .string t] 9)) (by simp) (sizes_two h h2) (parts_two w s t)
  rw [show flat [s, t] = s.data.toList ++ t.data.toList by simp [flat]] at this
  exact this
theorem crc_three (s t u : ByteArray) (w : World) (g : Nat) (hg : g = w.heap.size) (h : s.size ≤ 1000000000) (h2 : t.size ≤ 1000000000) (h3 : u.size ≤ 1000000000) :
    Calls Try.prog 82 #[.slice (some ⟨g, 0, none⟩) 3 3] (w.alloc (.cells #[.string s, .string t, .string u] 9)) fun e w' => e = .returned (.int .u32 (crcV (s.data.toList ++ (t.data.toList ++ u.data.toList)))) ∧ w.alloc (.cells #[.string s, .string t, .string u] 9) = w' := by
  subst hg
  have := crc_any [s, t, u] w.heap.size 3 (w.alloc (.cells #[.string s, .string t, .string u] 9)) (by simp) (sizes_three h h2 h3) (parts_three w s t u)
  rw [show flat [s, t, u] = s.data.toList ++ (t.data.toList ++ u.data.toList) by simp [flat]] at this
  exact this
theorem rcrc_one (p : ByteArray) (w : World) (hp : p.size ≤ 1000000000) : Calls Try.prog 67 #[.string p] w fun e w' => e = .returned (.int .u32 (crcV p.data.toList)) ∧ w = w' := rcrc_any p w hp

theorem awake2_any (w : World) : Calls Try.prog 79 #[] w fun e w' => e = .returned (.bool true) ∧ Below w.heap.size w w' := by
  have hv : crcV ((⟨#[49, 50, 51, 52, 53]⟩ : ByteArray).data.toList ++ (⟨#[54, 55, 56, 57]⟩ : ByteArray).data.toList) = 3808858755 := by kernel_rfl
  have k1 := fun w g hg => crc_two ⟨#[49, 50, 51, 52, 53]⟩ ⟨#[54, 55, 56, 57]⟩ w g hg (by decide) (by decide)
  rw [hv] at k1
  have K1 := Lib.hid k1
  clear k1 hv
  have hB := Below.refl w.heap.size w
  go_enter Try.func79, Try.ntmps79
  go_wp2_with (first
    | (go_at_call 58; go_must (refine (awake1_any _).mono ?_); rintro e w1 ⟨rfl, hb1⟩; replace hB := hB.trans (hb1.mono hB.size))
    | (go_at_call 82; go_must (refine (K1.out _ _ (by simp)).mono ?_); rintro e w1 ⟨rfl, rfl⟩))
  go_ret
  exact ⟨rfl, hB.alloc hB.size _⟩
end Go.Proofs.Ytdojepkmjifoeaa

namespace Go.Proofs.Ytdojepkmjifoeaa
open Go.RowKit

theorem mask_mod (x : Nat) : x &&& 16711935 = 65536 * (x / 65536 % 256) + x % 256 := by
  have h1 : (x &&& 16711935) % 65536 = x % 256 := by
    have := Nat.and_mod_two_pow (a := x) (b := 16711935) (n := 16)
    simp only [Nat.reducePow, Nat.reduceMod] at this
    rw [this, nat_mask8]; omega
  have h2 : (x &&& 16711935) / 65536 = x / 65536 % 256 := by
    have := Nat.and_div_two_pow (a := x) (b := 16711935) (n := 16)
    simp only [Nat.reducePow, Nat.reduceDiv] at this
    rw [this, nat_mask8]
  omega
theorem or_bytes (a b c d : Nat) (ha : a < 256) (hb : b < 256) (hd : d < 256) : (65536 * a + b) ||| ((65536 * c + d) * 256) = 65536 * (256 * c + a) + (256 * d + b) := by
  have h1 : ((65536 * a + b) ||| ((65536 * c + d) * 256)) % 65536 = 256 * d + b := by
    have := Nat.or_mod_two_pow (a := 65536 * a + b) (b := (65536 * c + d) * 256) (n := 16)
    simp only [Nat.reducePow] at this
    rw [this, show (65536 * a + b) % 65536 = b by omega, show (65536 * c + d) * 256 % 65536 = 256 * d by omega, Nat.or_comm]
    exact nat_join 8 (256 * d) b (by omega) (by omega)
  have h2 : ((65536 * a + b) ||| ((65536 * c + d) * 256)) / 65536 = 256 * c + a := by
    have := Nat.or_div_two_pow (a := 65536 * a + b) (b := (65536 * c + d) * 256) (n := 16)
    simp only [Nat.reducePow] at this
    rw [this, show (65536 * a + b) / 65536 = a by omega, show (65536 * c + d) * 256 / 65536 = 256 * c by omega, Nat.or_comm]
    exact nat_join 8 (256 * c) a (by omega) (by omega)
  omega

/-- The bytes turned about. -/
def revN (x : Nat) : Nat := 65536 * (256 * (x % 256) + x / 256 % 256) + (256 * (x / 65536 % 256) + x / 16777216)

theorem revN_lt (x : Nat) (h : x < 4294967296) : revN x < 4294967296 := by unfold revN; omega

theorem rev_half (x : Nat) (hx : x < 4294967296) :
    bits BinOp.or IntKind.u32 (bits BinOp.and IntKind.u32 ((x : Int) / 256) 16711935) (bits BinOp.and IntKind.u32 (x : Int) 16711935 * 256 % 4294967296) = ((65536 * (256 * (x / 65536 % 256) + x / 16777216) + (256 * (x % 256) + x / 256 % 256) : Nat) : Int) := by
  have h1 := u32_and_nat (x / 256) 16711935 (by omega) (by omega)
  have h2 := u32_and_nat x 16711935 hx (by omega)
  rw [mask_mod] at h1 h2
  have e1 : ((x / 256 : Nat) : Int) = (x : Int) / 256 := by simp
  rw [e1] at h1
  have h1' : bits BinOp.and IntKind.u32 ((x : Int) / 256) 16711935 = ((65536 * (x / 16777216) + x / 256 % 256 : Nat) : Int) := by
    rw [show (16711935 : Int) = ((16711935 : Nat) : Int) from rfl, h1]
    congr 1
    omega
  have h2' : bits BinOp.and IntKind.u32 (x : Int) 16711935 * 256 % 4294967296 = (((65536 * (x / 65536 % 256) + x % 256) * 256 : Nat) : Int) := by
    rw [show (16711935 : Int) = ((16711935 : Nat) : Int) from rfl, h2]
    omega
  rw [h1', h2', u32_or_nat _ _ (by omega) (by omega), or_bytes _ _ _ _ (by omega) (by omega) (by omega)]

theorem rev_val (x : Nat) (hx : x < 4294967296) (Y : Int) (hY : Y = ((65536 * (256 * (x / 65536 % 256) + x / 16777216) + (256 * (x % 256) + x / 256 % 256) : Nat) : Int)) :
    bits BinOp.or IntKind.u32 (Y / 65536) (Y * 65536 % 4294967296) = (revN x : Int) := by
  subst hY
  have e1 : (((65536 * (256 * (x / 65536 % 256) + x / 16777216) + (256 * (x % 256) + x / 256 % 256) : Nat) : Int)) / 65536 = ((256 * (x / 65536 % 256) + x / 16777216 : Nat) : Int) := by omega
  have e2 : (((65536 * (256 * (x / 65536 % 256) + x / 16777216) + (256 * (x % 256) + x / 256 % 256) : Nat) : Int)) * 65536 % 4294967296 = ((65536 * (256 * (x % 256) + x / 256 % 256) : Nat) : Int) := by omega
  rw [e1, e2, u32_or_nat _ _ (by omega) (by omega), Nat.or_comm, nat_join 16 _ _ (by omega) (by omega)]
  rfl

theorem rev_any (x : Nat) (hx : x < 4294967296) (w : World) :
    Calls Try.prog 81 #[.int .u32 x] w fun e w' => e = .returned (.int .u32 (revN x : Nat)) ∧ w = w' := by
  go_enter Try.func81, Try.ntmps81
  go_wp2
  go_ret
  exact ⟨congrArg (fun z => Ending.returned (.int .u32 z)) (rev_val x hx _ (rev_half x hx)), rfl⟩

/-- A number of 32 bits as bytes, the lowest first. -/
def le4 (n : Nat) : List UInt8 := [UInt8.ofNat n, UInt8.ofNat (n / 256), UInt8.ofNat (n / 65536), UInt8.ofNat (n / 16777216)]
theorem rev_bytes (n : Nat) (h : n < 4294967296) : revN n / 16777216 % 256 = n % 256 ∧ revN n / 65536 % 256 = n / 256 % 256 ∧ revN n / 256 % 256 = n / 65536 % 256 ∧ revN n % 256 = n / 16777216 % 256 := by
  unfold revN
  have h0 : n % 256 < 256 := Nat.mod_lt _ (by omega)
  have h1 : n / 256 % 256 < 256 := Nat.mod_lt _ (by omega)
  have h2 : n / 65536 % 256 < 256 := Nat.mod_lt _ (by omega)
  have h3 : n / 16777216 < 256 := by omega
  generalize n % 256 = a at *
  generalize n / 256 % 256 = b at *
  generalize n / 65536 % 256 = c at *
  generalize n / 16777216 = d at *
  omega
theorem be_rev (n : Nat) (h : n < 4294967296) : be (revN n) 4 = le4 n := by
  have e : ∀ a b : Nat, a % 256 = b % 256 → UInt8.ofNat a = UInt8.ofNat b := by
    intro a b hab; rw [← UInt8.toNat_inj]; simpa using hab
  obtain ⟨h0, h1, h2, h3⟩ := rev_bytes n h
  generalize revN n = R at *
  unfold le4 be be be be be
  simp only [Nat.reducePow, Nat.div_one]
  rw [e _ _ h0, e _ _ h1, e _ _ h2, e _ _ h3]
theorem le4_length (n : Nat) : (le4 n).length = 4 := rfl

theorem tail_any (p : ByteArray) (w : World) (hp : p.size ≤ 1000000000) :
    Calls Try.prog 65 #[.string p] w fun e w' => e = .returned (.string (str (le4 (crcV p.data.toList)))) ∧ Below w.heap.size w w' := by
  have k1 := fun w g hg => crc_one p w g hg hp
  have hv := crcV_lt p.data.toList
  generalize crcV p.data.toList = V at *
  have k2 := fun w => rev_any V hv w
  have hR := revN_lt V hv
  have hbe := be_rev V hv
  generalize revN V = R at *
  have k3 := fun w => put_any R 4 (by omega) w
  rw [show clip 4 = 4 by rfl, hbe] at k3
  have K1 := Lib.hid k1
  have K2 := Lib.hid k2
  have K3 := Lib.hid k3
  clear k1 k2 k3 hbe hv
  have hB := Below.refl w.heap.size w
  go_enter Try.func65, Try.ntmps65
  go_wp2_with (first
    | (go_at_call 82; go_must (refine (K1.out _ _ (by simp)).mono ?_); rintro e w2 ⟨rfl, rfl⟩)
    | (go_at_call 81; go_must (refine (K2.out _).mono ?_); rintro e w2 ⟨rfl, rfl⟩)
    | (go_at_call 42; go_must (refine (K3.out _).mono ?_); rintro e w2 ⟨rfl, hb2⟩))
  go_ret
  exact ⟨rfl, (hB.alloc hB.size _).trans (hb2.mono (by simp))⟩
end Go.Proofs.Ytdojepkmjifoeaa
