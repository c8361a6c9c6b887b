/- YtdojepkmjifoeaaO; YtdojepkmjifoeaaQ; DERIVED: THE SHELF's CONTRACTS AT THIS DUMP, IN PLAIN WORDS (tools/lay-plain.mjs out of 'YtdojepkmjifoeaaShelf.lean', which tools/lay-shelf.mjs wrote): THE SAME DECLARATIONS UNDER THE SAME NAMES: 'import', 'namespace', 'open', 'def', 'theorem' AND NOTHING ELSE: no command of the shelf's: FOR A HAND-IN. Each laying: the table of numbers ('.._ren') and one theorem, a field a fact of the dump's own or the kernel's comparison; each contract: ONE APPLICATION. -/
import Derived.Test.YtdojepkmjifoeaaJ05
import Derived.Shelf.LaysM
import Derived.Shelf.Strconv.Clone
import Derived.Shelf.Strings.Prefix
import Derived.Test.YtdojepkmjifoeaaProg
set_option linter.unusedVariables false
set_option linter.unusedSimpArgs false
namespace Go.Proofs.Ytdojepkmjifoeaa
open Go.RowKit

/-- The CRC of a list of bytes. -/
def crcV (l : List UInt8) : Nat := 4294967295 - crc0 l
theorem crcV_lt (l : List UInt8) : crcV l < 4294967296 := by unfold crcV; omega

theorem cell_new (w : World) (cs : Array Value) (t : TypeId) (j : Nat) : (w.alloc (.cells cs t)).cell? ⟨w.heap.size, j, none⟩ = cs[j]? := World.cell?_alloc_new w cs t j

theorem parts_one (w : World) (s : ByteArray) : Parts (w.alloc (.cells #[.string s] 9)) w.heap.size [s] := by
  intro j hj
  rw [cell_new]
  match j, hj with
  | 0, _ => rfl
theorem parts_two (w : World) (s t : ByteArray) : Parts (w.alloc (.cells #[.string s, .string t] 9)) w.heap.size [s, t] := by
  intro j hj
  rw [cell_new]
  match j, hj with
  | 0, _ => rfl
  | 1, _ => rfl
theorem parts_three (w : World) (s t u : ByteArray) : Parts (w.alloc (.cells #[.string s, .string t, .string u] 9)) w.heap.size [s, t, u] := by
  intro j hj
  rw [cell_new]
  match j, hj with
  | 0, _ => rfl
  | 1, _ => rfl
  | 2, _ => rfl
theorem sizes_one {s : ByteArray} (h : s.size ≤ 1000000000) : ∀ j, ([s].getD j ByteArray.empty).size ≤ 1000000000 := by
  intro j
  match j with
  | 0 => exact h
  | _ + 1 => exact Nat.zero_le _
theorem sizes_two {s t : ByteArray} (h : s.size ≤ 1000000000) (h2 : t.size ≤ 1000000000) : ∀ j, ([s, t].getD j ByteArray.empty).size ≤ 1000000000 := by
  intro j
  match j with
  | 0 => exact h
  | 1 => exact h2
  | _ + 2 => exact Nat.zero_le _
theorem sizes_three {s t u : ByteArray} (h : s.size ≤ 1000000000) (h2 : t.size ≤ 1000000000) (h3 : u.size ≤ 1000000000) : ∀ j, ([s, t, u].getD j ByteArray.empty).size ≤ 1000000000 := by
  intro j
  match j with
  | 0 => exact h
  | 1 => exact h2
  | 2 => exact h3
  | _ + 3 => exact Nat.zero_le _

theorem crc_one (s : ByteArray) (w : World) (g : Nat) (hg : g = w.heap.size) (h : s.size ≤ 1000000000) :
    Calls Try.prog 82 #[.slice (some ⟨g, 0, none⟩) 1 1] (w.alloc (.cells #[.string s] 9)) fun e w' => e = .returned (.int .u32 (crcV s.data.toList)) ∧ w.alloc (.cells #[.string s] 9) = w' := by
  subst hg
  have := crc_any [s] w.heap.size 1 (w.alloc (.cells #[.string s] 9)) (by simp) (sizes_one h) (parts_one w s)
  rw [show flat [s] = s.data.toList by simp [flat]] at this
  exact this
theorem crc_two (s t : ByteArray) (w : World) (g : Nat) (hg : g = w.heap.size) (h : s.size ≤ 1000000000) (h2 : t.size ≤ 1000000000) :
    Calls Try.prog 82 #[.slice (some ⟨g, 0, none⟩) 2 2] (w.alloc (.cells #[.string s, .string t] 9)) fun e w' => e = .returned (.int .u32 (crcV (s.data.toList ++ t.data.toList))) ∧ w.alloc (.cells #[.string s, .string t] 9) = w' := by
  subst hg
  have := crc_any [s, t] w.heap.size 2 (w.alloc (.cells #[.string s, .string t] 9)) (by simp) (sizes_two h h2) (parts_two w s t)
  rw [show flat [s, t] = s.data.toList ++ t.data.toList by simp [flat]] at this
  exact this
theorem crc_three (s t u : ByteArray) (w : World) (g : Nat) (hg : g = w.heap.size) (h : s.size ≤ 1000000000) (h2 : t.size ≤ 1000000000) (h3 : u.size ≤ 1000000000) :
    Calls Try.prog 82 #[.slice (some ⟨g, 0, none⟩) 3 3] (w.alloc (.cells #[.string s, .string t, .string u] 9)) fun e w' => e = .returned (.int .u32 (crcV (s.data.toList ++ (t.data.toList ++ u.data.toList)))) ∧ w.alloc (.cells #[.string s, .string t, .string u] 9) = w' := by
  subst hg
  have := crc_any [s, t, u] w.heap.size 3 (w.alloc (.cells #[.string s, .string t, .string u] 9)) (by simp) (sizes_three h h2 h3) (parts_three w s t u)
  rw [show flat [s, t, u] = s.data.toList ++ (t.data.toList ++ u.data.toList) by simp [flat]] at this
  exact this
theorem rcrc_one (p : ByteArray) (w : World) (hp : p.size ≤ 1000000000) : Calls Try.prog 67 #[.string p] w fun e w' => e = .returned (.int .u32 (crcV p.data.toList)) ∧ w = w' := rcrc_any p w hp

theorem awake2_any (w : World) : Calls Try.prog 79 #[] w fun e w' => e = .returned (.bool true) ∧ Below w.heap.size w w' := by
  have hv : crcV ((⟨#[49, 50, 51, 52, 53]⟩ : ByteArray).data.toList ++ (⟨#[54, 55, 56, 57]⟩ : ByteArray).data.toList) = 3808858755 := by kernel_rfl
  have k1 := fun w g hg => crc_two ⟨#[49, 50, 51, 52, 53]⟩ ⟨#[54, 55, 56, 57]⟩ w g hg (by decide) (by decide)
  rw [hv] at k1
  have K1 := Lib.hid k1
  clear k1 hv
  have hB := Below.refl w.heap.size w
  go_enter Try.func79, Try.ntmps79
  go_wp2_with (first
    | (go_at_call 58; go_must (refine (awake1_any _).mono ?_); rintro e w1 ⟨rfl, hb1⟩; replace hB := hB.trans (hb1.mono hB.size))
    | (go_at_call 82; go_must (refine (K1.out _ _ (by simp)).mono ?_); rintro e w1 ⟨rfl, rfl⟩))
  go_ret
  exact ⟨rfl, hB.alloc hB.size _⟩
end Go.Proofs.Ytdojepkmjifoeaa

namespace Go.Proofs.Ytdojepkmjifoeaa
open Go.RowKit

theorem mask_mod (x : Nat) : x &&& 16711935 = 65536 * (x / 65536 % 256) + x % 256 := by
  have h1 : (x &&& 16711935) % 65536 = x % 256 := by
    have := Nat.and_mod_two_pow (a := x) (b := 16711935) (n := 16)
    simp only [Nat.reducePow, Nat.reduceMod] at this
    rw [this, nat_mask8]; omega
  have h2 : (x &&& 16711935) / 65536 = x / 65536 % 256 := by
    have := Nat.and_div_two_pow (a := x) (b := 16711935) (n := 16)
    simp only [Nat.reducePow, Nat.reduceDiv] at this
    rw [this, nat_mask8]
  omega
theorem or_bytes (a b c d : Nat) (ha : a < 256) (hb : b < 256) (hd : d < 256) : (65536 * a + b) ||| ((65536 * c + d) * 256) = 65536 * (256 * c + a) + (256 * d + b) := by
  have h1 : ((65536 * a + b) ||| ((65536 * c + d) * 256)) % 65536 = 256 * d + b := by
    have := Nat.or_mod_two_pow (a := 65536 * a + b) (b := (65536 * c + d) * 256) (n := 16)
    simp only [Nat.reducePow] at this
    rw [this, show (65536 * a + b) % 65536 = b by omega, show (65536 * c + d) * 256 % 65536 = 256 * d by omega, Nat.or_comm]
    exact nat_join 8 (256 * d) b (by omega) (by omega)
  have h2 : ((65536 * a + b) ||| ((65536 * c + d) * 256)) / 65536 = 256 * c + a := by
    have := Nat.or_div_two_pow (a := 65536 * a + b) (b := (65536 * c + d) * 256) (n := 16)
    simp only [Nat.reducePow] at this
    rw [this, show (65536 * a + b) / 65536 = a by omega, show (65536 * c + d) * 256 / 65536 = 256 * c by omega, Nat.or_comm]
    exact nat_join 8 (256 * c) a (by omega) (by omega)
  omega

/-- The bytes turned about. -/
def revN (x : Nat) : Nat := 65536 * (256 * (x % 256) + x / 256 % 256) + (256 * (x / 65536 % 256) + x / 16777216)

theorem revN_lt (x : Nat) (h : x < 4294967296) : revN x < 4294967296 := by unfold revN; omega

theorem rev_half (x : Nat) (hx : x < 4294967296) :
    bits BinOp.or IntKind.u32 (bits BinOp.and IntKind.u32 ((x : Int) / 256) 16711935) (bits BinOp.and IntKind.u32 (x : Int) 16711935 * 256 % 4294967296) = ((65536 * (256 * (x / 65536 % 256) + x / 16777216) + (256 * (x % 256) + x / 256 % 256) : Nat) : Int) := by
  have h1 := u32_and_nat (x / 256) 16711935 (by omega) (by omega)
  have h2 := u32_and_nat x 16711935 hx (by omega)
  rw [mask_mod] at h1 h2
  have e1 : ((x / 256 : Nat) : Int) = (x : Int) / 256 := by simp
  rw [e1] at h1
  have h1' : bits BinOp.and IntKind.u32 ((x : Int) / 256) 16711935 = ((65536 * (x / 16777216) + x / 256 % 256 : Nat) : Int) := by
    rw [show (16711935 : Int) = ((16711935 : Nat) : Int) from rfl, h1]
    congr 1
    omega
  have h2' : bits BinOp.and IntKind.u32 (x : Int) 16711935 * 256 % 4294967296 = (((65536 * (x / 65536 % 256) + x % 256) * 256 : Nat) : Int) := by
    rw [show (16711935 : Int) = ((16711935 : Nat) : Int) from rfl, h2]
    omega
  rw [h1', h2', u32_or_nat _ _ (by omega) (by omega), or_bytes _ _ _ _ (by omega) (by omega) (by omega)]

theorem rev_val (x : Nat) (hx : x < 4294967296) (Y : Int) (hY : Y = ((65536 * (256 * (x / 65536 % 256) + x / 16777216) + (256 * (x % 256) + x / 256 % 256) : Nat) : Int)) :
    bits BinOp.or IntKind.u32 (Y / 65536) (Y * 65536 % 4294967296) = (revN x : Int) := by
  subst hY
  have e1 : (((65536 * (256 * (x / 65536 % 256) + x / 16777216) + (256 * (x % 256) + x / 256 % 256) : Nat) : Int)) / 65536 = ((256 * (x / 65536 % 256) + x / 16777216 : Nat) : Int) := by omega
  have e2 : (((65536 * (256 * (x / 65536 % 256) + x / 16777216) + (256 * (x % 256) + x / 256 % 256) : Nat) : Int)) * 65536 % 4294967296 = ((65536 * (256 * (x % 256) + x / 256 % 256) : Nat) : Int) := by omega
  rw [e1, e2, u32_or_nat _ _ (by omega) (by omega), Nat.or_comm, nat_join 16 _ _ (by omega) (by omega)]
  rfl

theorem rev_any (x : Nat) (hx : x < 4294967296) (w : World) :
    Calls Try.prog 81 #[.int .u32 x] w fun e w' => e = .returned (.int .u32 (revN x : Nat)) ∧ w = w' := by
  go_enter Try.func81, Try.ntmps81
  go_wp2
  go_ret
  exact ⟨congrArg (fun z => Ending.returned (.int .u32 z)) (rev_val x hx _ (rev_half x hx)), rfl⟩

/-- A number of 32 bits as bytes, the lowest first. -/
def le4 (n : Nat) : List UInt8 := [UInt8.ofNat n, UInt8.ofNat (n / 256), UInt8.ofNat (n / 65536), UInt8.ofNat (n / 16777216)]
theorem rev_bytes (n : Nat) (h : n < 4294967296) : revN n / 16777216 % 256 = n % 256 ∧ revN n / 65536 % 256 = n / 256 % 256 ∧ revN n / 256 % 256 = n / 65536 % 256 ∧ revN n % 256 = n / 16777216 % 256 := by
  unfold revN
  have h0 : n % 256 < 256 := Nat.mod_lt _ (by omega)
  have h1 : n / 256 % 256 < 256 := Nat.mod_lt _ (by omega)
  have h2 : n / 65536 % 256 < 256 := Nat.mod_lt _ (by omega)
  have h3 : n / 16777216 < 256 := by omega
  generalize n % 256 = a at *
  generalize n / 256 % 256 = b at *
  generalize n / 65536 % 256 = c at *
  generalize n / 16777216 = d at *
  omega
theorem be_rev (n : Nat) (h : n < 4294967296) : be (revN n) 4 = le4 n := by
  have e : ∀ a b : Nat, a % 256 = b % 256 → UInt8.ofNat a = UInt8.ofNat b := by
    intro a b hab; rw [← UInt8.toNat_inj]; simpa using hab
  obtain ⟨h0, h1, h2, h3⟩ := rev_bytes n h
  generalize revN n = R at *
  unfold le4 be be be be be
  simp only [Nat.reducePow, Nat.div_one]
  rw [e _ _ h0, e _ _ h1, e _ _ h2, e _ _ h3]
theorem le4_length (n : Nat) : (le4 n).length = 4 := rfl

theorem tail_any (p : ByteArray) (w : World) (hp : p.size ≤ 1000000000) :
    Calls Try.prog 65 #[.string p] w fun e w' => e = .returned (.string (str (le4 (crcV p.data.toList)))) ∧ Below w.heap.size w w' := by
  have k1 := fun w g hg => crc_one p w g hg hp
  have hv := crcV_lt p.data.toList
  generalize crcV p.data.toList = V at *
  have k2 := fun w => rev_any V hv w
  have hR := revN_lt V hv
  have hbe := be_rev V hv
  generalize revN V = R at *
  have k3 := fun w => put_any R 4 (by omega) w
  rw [show clip 4 = 4 by rfl, hbe] at k3
  have K1 := Lib.hid k1
  have K2 := Lib.hid k2
  have K3 := Lib.hid k3
  clear k1 k2 k3 hbe hv
  have hB := Below.refl w.heap.size w
  go_enter Try.func65, Try.ntmps65
  go_wp2_with (first
    | (go_at_call 82; go_must (refine (K1.out _ _ (by simp)).mono ?_); rintro e w2 ⟨rfl, rfl⟩)
    | (go_at_call 81; go_must (refine (K2.out _).mono ?_); rintro e w2 ⟨rfl, rfl⟩)
    | (go_at_call 42; go_must (refine (K3.out _).mono ?_); rintro e w2 ⟨rfl, hb2⟩))
  go_ret
  exact ⟨rfl, (hB.alloc hB.size _).trans (hb2.mono (by simp))⟩
end Go.Proofs.Ytdojepkmjifoeaa

namespace Go.Proofs
open Go.Shelf
def Try.laysM316_ren : Go.Shelf.Ren := ⟨fun | 316 => 54 | n => n, fun | 9 => 9 | 3 => 3 | 4 => 4 | 37 => 94 | 0 => 0 | 127 => 126 | 5 => 5 | n => n, fun | n => n⟩
theorem Try.laysM316 : Go.Proofs.LaysM.n316 Try.prog Try.laysM316_ren := {
  mixed := by kernel_rfl
  f316 := Try.func54.trans (congrArg some (by kernel_rfl))
  t0 := Try.underlying0
  a0 := Try.isAgg0
  z0 := Try.sizeOf0
  v0 := Try.zeroValue0
  t3 := Try.underlying3
  a3 := Try.isAgg3
  z3 := Try.sizeOf3
  v3 := Try.zeroValue3
  t4 := Try.underlying4
  a4 := Try.isAgg4
  z4 := Try.sizeOf4
  v4 := Try.zeroValue4
  t9 := Try.underlying9
  a9 := Try.isAgg9
  z9 := Try.sizeOf9
  v9 := Try.zeroValue9
  t37 := Try.underlying94
  a37 := Try.isAgg94
  z37 := Try.sizeOf94
  v37 := Try.zeroValue94
  t127 := Try.underlying126
  a127 := Try.isAgg126
  z127 := Try.sizeOf126
  v127 := Try.zeroValue126
  t5 := Try.underlying5
  a5 := Try.isAgg5
  z5 := Try.sizeOf5
  v5 := Try.zeroValue5
  i0 := by kernel_rfl
  i3 := by kernel_rfl
  i4 := by kernel_rfl
  i5 := by kernel_rfl
  i9 := by kernel_rfl
  i37 := by kernel_rfl
  i127 := by kernel_rfl }
open Go.RowKit in
/-- internal/stringslite.Clone (what strings.Clone calls): "Clone returns a fresh copy of s.": THE SAME BYTES. Of what was there nothing has turned (a new row is laid, and frozen, where s is not empty). (LAID: no walk: one application.) -/
theorem Try.stringslite_Clone (s : ByteArray) (w : World) (hlim : s.size ≤ 281474976710656) :
    Calls Try.prog 54 #[.string s] w fun e w' => e = .returned (.string s) ∧ Below w.heap.size w w' := Any.stringslite_Clone Try.laysM316 s w hlim
def Try.lays99_ren : Go.Shelf.Ren := ⟨fun | 99 => 68 | 206 => 83 | n => n, fun | 9 => 9 | 4 => 4 | 3 => 3 | n => n, fun | n => n⟩
theorem Try.lays99 : Go.Proofs.Lays.n99 Try.prog Try.lays99_ren := {
  mixed := by kernel_rfl
  f99 := Try.func68.trans (congrArg some (by kernel_rfl))
  f206 := Try.func83.trans (congrArg some (by kernel_rfl))
  t3 := Try.underlying3
  a3 := Try.isAgg3
  z3 := Try.sizeOf3
  v3 := Try.zeroValue3
  t4 := Try.underlying4
  a4 := Try.isAgg4
  z4 := Try.sizeOf4
  v4 := Try.zeroValue4
  t9 := Try.underlying9
  a9 := Try.isAgg9
  z9 := Try.sizeOf9
  v9 := Try.zeroValue9 }
open Go.RowKit Go.Lib in
/-- strings.HasPrefix: "HasPrefix reports whether the string s begins with prefix.": IT RETURNS 'Lib.hasPrefix s prefix'; the world is as it was. (LAID: no walk: one application.) -/
theorem Try.strings_HasPrefix (s p : ByteArray) (w : World) :
    Calls Try.prog 68 #[.string s, .string p] w fun e w' => e = .returned (.bool (Lib.hasPrefix s.data.toList p.data.toList)) ∧ w' = w := Any.strings_HasPrefix Try.lays99 s p w
end Go.Proofs
