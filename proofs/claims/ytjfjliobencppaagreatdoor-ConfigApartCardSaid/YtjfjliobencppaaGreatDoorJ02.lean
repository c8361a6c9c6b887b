/- YtjfjliobencppaaGreatDoorM; YtjfjliobencppaaGreatDoorN; YtjfjliobencppaaGreatDoorO; YtjfjliobencppaaGreatDoorQ; DERIVED: THE SHELF's CONTRACTS AT THIS DUMP, IN PLAIN WORDS (tools/lay-plain.mjs out of 'YtjfjliobencppaaGreatDoorShelf.lean', which tools/lay-shelf.mjs wrote): THE SAME DECLARATIONS UNDER THE SAME NAMES: 'import', 'namespace', 'open', 'def', 'theorem' AND NOTHING ELSE: no command of the shelf's: FOR A HAND-IN. Each laying: the table of numbers ('.._ren') and one theorem, a field a fact of the dump's own or the kernel's comparison; each contract: ONE APPLICATION. -/
import Derived.Test.YtjfjliobencppaaGreatDoorJ01
import Derived.Shelf.LaysM
import Derived.Shelf.Strconv.Clone
import Derived.Shelf.Strings.Prefix
import Derived.Test.YtjfjliobencppaaGreatDoorProg
set_option linter.unusedVariables false
set_option linter.unusedSimpArgs false
namespace Go.Proofs.YtjfjliobencppaaGreatDoor
open Go.RowKit

/-- The bytes of parts, one behind the other. -/
def flat (ps : List ByteArray) : List UInt8 := ps.flatMap fun p => p.data.toList
/-- A slice of strings, by its cells. -/
def Parts (w : World) (g : Nat) (ps : List ByteArray) : Prop :=
  ∀ j, j < ps.length → w.cell? ⟨g, j, none⟩ = some (.string (ps.getD j ByteArray.empty))

theorem flat_snoc (ps : List ByteArray) (k : Nat) (h : k < ps.length) : flat (ps.take (k + 1)) = flat (ps.take k) ++ (ps.getD k ByteArray.empty).data.toList := by
  rw [List.take_succ_eq_append_getElem h]
  unfold flat
  rw [List.flatMap_append, List.flatMap_singleton, List.getD_eq_getElem?_getD, List.getElem?_eq_getElem h]
  rfl

/-- The register at the start of a sum. -/
def crc0 (l : List UInt8) : Nat := runN 4294967295 l
theorem crc0_lt (l : List UInt8) : crc0 l < 4294967296 := runN_lt l _ (by omega)

end Go.Proofs.YtjfjliobencppaaGreatDoor

namespace Go.Proofs.YtjfjliobencppaaGreatDoor
open Go.RowKit

theorem xor_spell (n c : Nat) (hn : n < 4294967296) (hc : c < 256) : bits BinOp.xor IntKind.u32 (n : Int) ((c : Int) % 4294967296) = ((n ^^^ c : Nat) : Int) := by
  rw [show (c : Int) % 4294967296 = c by omega, u32_xor_nat n c hn (by omega)]
theorem bit_odd' (m : Nat) (h : m < 4294967296) (ho : m % 2 = 1) : (m : Int) % 2 = 1 ∧ bits BinOp.xor IntKind.u32 ((m : Int) / 2 % 4294967296) 2197175160 = (bit m : Int) := ⟨by omega, by rw [show (m : Int) / 2 % 4294967296 = (m : Int) / 2 by omega]; exact (bit_odd m h ho).2⟩
theorem bit_even' (m : Nat) (h : m < 4294967296) (ho : ¬ m % 2 = 1) : (m : Int) % 2 = 0 ∧ (m : Int) / 2 % 4294967296 = (bit m : Int) := ⟨by omega, by rw [show (m : Int) / 2 % 4294967296 = (m : Int) / 2 by omega]; exact (bit_even m h ho).2⟩

end Go.Proofs.YtjfjliobencppaaGreatDoor

namespace Go.Proofs.YtjfjliobencppaaGreatDoor
open Go.RowKit

/-- The CRC of a list of bytes. -/
def crcV (l : List UInt8) : Nat := 4294967295 - crc0 l
theorem crcV_lt (l : List UInt8) : crcV l < 4294967296 := by unfold crcV; omega

theorem cell_new (w : World) (cs : Array Value) (t : TypeId) (j : Nat) : (w.alloc (.cells cs t)).cell? ⟨w.heap.size, j, none⟩ = cs[j]? := World.cell?_alloc_new w cs t j

theorem parts_one (w : World) (s : ByteArray) : Parts (w.alloc (.cells #[.string s] 9)) w.heap.size [s] := by
  intro j hj
  rw [cell_new]
  match j, hj with
  | 0, _ => rfl
theorem parts_two (w : World) (s t : ByteArray) : Parts (w.alloc (.cells #[.string s, .string t] 9)) w.heap.size [s, t] := by
  intro j hj
  rw [cell_new]
  match j, hj with
  | 0, _ => rfl
  | 1, _ => rfl
theorem parts_three (w : World) (s t u : ByteArray) : Parts (w.alloc (.cells #[.string s, .string t, .string u] 9)) w.heap.size [s, t, u] := by
  intro j hj
  rw [cell_new]
  match j, hj with
  | 0, _ => rfl
  | 1, _ => rfl
  | 2, _ => rfl
theorem sizes_one {s : ByteArray} (h : s.size ≤ 1000000000) : ∀ j, ([s].getD j ByteArray.empty).size ≤ 1000000000 := by
  intro j
  match j with
  | 0 => exact h
  | _ + 1 => exact Nat.zero_le _
theorem sizes_two {s t : ByteArray} (h : s.size ≤ 1000000000) (h2 : t.size ≤ 1000000000) : ∀ j, ([s, t].getD j ByteArray.empty).size ≤ 1000000000 := by
  intro j
  match j with
  | 0 => exact h
  | 1 => exact h2
  | _ + 2 => exact Nat.zero_le _
theorem sizes_three {s t u : ByteArray} (h : s.size ≤ 1000000000) (h2 : t.size ≤ 1000000000) (h3 : u.size ≤ 1000000000) : ∀ j, ([s, t, u].getD j ByteArray.empty).size ≤ 1000000000 := by
  intro j
  match j with
  | 0 => exact h
  | 1 => exact h2
  | 2 => exact h3
  | _ + 3 => exact Nat.zero_le _

end Go.Proofs.YtjfjliobencppaaGreatDoor

namespace Go.Proofs.YtjfjliobencppaaGreatDoor
open Go.RowKit

theorem mask_mod (x : Nat) : x &&& 16711935 = 65536 * (x / 65536 % 256) + x % 256 := by
  have h1 : (x &&& 16711935) % 65536 = x % 256 := by
    have := Nat.and_mod_two_pow (a := x) (b := 16711935) (n := 16)
    simp only [Nat.reducePow, Nat.reduceMod] at this
    rw [this, nat_mask8]; omega
  have h2 : (x &&& 16711935) / 65536 = x / 65536 % 256 := by
    have := Nat.and_div_two_pow (a := x) (b := 16711935) (n := 16)
    simp only [Nat.reducePow, Nat.reduceDiv] at this
    rw [this, nat_mask8]
  omega
theorem or_bytes (a b c d : Nat) (ha : a < 256) (hb : b < 256) (hd : d < 256) : (65536 * a + b) ||| ((65536 * c + d) * 256) = 65536 * (256 * c + a) + (256 * d + b) := by
  have h1 : ((65536 * a + b) ||| ((65536 * c + d) * 256)) % 65536 = 256 * d + b := by
    have := Nat.or_mod_two_pow (a := 65536 * a + b) (b := (65536 * c + d) * 256) (n := 16)
    simp only [Nat.reducePow] at this
    rw [this, show (65536 * a + b) % 65536 = b by omega, show (65536 * c + d) * 256 % 65536 = 256 * d by omega, Nat.or_comm]
    exact nat_join 8 (256 * d) b (by omega) (by omega)
  have h2 : ((65536 * a + b) ||| ((65536 * c + d) * 256)) / 65536 = 256 * c + a := by
    have := Nat.or_div_two_pow (a := 65536 * a + b) (b := (65536 * c + d) * 256) (n := 16)
    simp only [Nat.reducePow] at this
    rw [this, show (65536 * a + b) / 65536 = a by omega, show (65536 * c + d) * 256 / 65536 = 256 * c by omega, Nat.or_comm]
    exact nat_join 8 (256 * c) a (by omega) (by omega)
  omega

/-- The bytes turned about. -/
def revN (x : Nat) : Nat := 65536 * (256 * (x % 256) + x / 256 % 256) + (256 * (x / 65536 % 256) + x / 16777216)

theorem revN_lt (x : Nat) (h : x < 4294967296) : revN x < 4294967296 := by unfold revN; omega

theorem rev_half (x : Nat) (hx : x < 4294967296) :
    bits BinOp.or IntKind.u32 (bits BinOp.and IntKind.u32 ((x : Int) / 256) 16711935) (bits BinOp.and IntKind.u32 (x : Int) 16711935 * 256 % 4294967296) = ((65536 * (256 * (x / 65536 % 256) + x / 16777216) + (256 * (x % 256) + x / 256 % 256) : Nat) : Int) := by
  have h1 := u32_and_nat (x / 256) 16711935 (by omega) (by omega)
  have h2 := u32_and_nat x 16711935 hx (by omega)
  rw [mask_mod] at h1 h2
  have e1 : ((x / 256 : Nat) : Int) = (x : Int) / 256 := by simp
  rw [e1] at h1
  have h1' : bits BinOp.and IntKind.u32 ((x : Int) / 256) 16711935 = ((65536 * (x / 16777216) + x / 256 % 256 : Nat) : Int) := by
    rw [show (16711935 : Int) = ((16711935 : Nat) : Int) from rfl, h1]
    congr 1
    omega
  have h2' : bits BinOp.and IntKind.u32 (x : Int) 16711935 * 256 % 4294967296 = (((65536 * (x / 65536 % 256) + x % 256) * 256 : Nat) : Int) := by
    rw [show (16711935 : Int) = ((16711935 : Nat) : Int) from rfl, h2]
    omega
  rw [h1', h2', u32_or_nat _ _ (by omega) (by omega), or_bytes _ _ _ _ (by omega) (by omega) (by omega)]

theorem rev_val (x : Nat) (hx : x < 4294967296) (Y : Int) (hY : Y = ((65536 * (256 * (x / 65536 % 256) + x / 16777216) + (256 * (x % 256) + x / 256 % 256) : Nat) : Int)) :
    bits BinOp.or IntKind.u32 (Y / 65536) (Y * 65536 % 4294967296) = (revN x : Int) := by
  subst hY
  have e1 : (((65536 * (256 * (x / 65536 % 256) + x / 16777216) + (256 * (x % 256) + x / 256 % 256) : Nat) : Int)) / 65536 = ((256 * (x / 65536 % 256) + x / 16777216 : Nat) : Int) := by omega
  have e2 : (((65536 * (256 * (x / 65536 % 256) + x / 16777216) + (256 * (x % 256) + x / 256 % 256) : Nat) : Int)) * 65536 % 4294967296 = ((65536 * (256 * (x % 256) + x / 256 % 256) : Nat) : Int) := by omega
  rw [e1, e2, u32_or_nat _ _ (by omega) (by omega), Nat.or_comm, nat_join 16 _ _ (by omega) (by omega)]
  rfl

/-- A number of 32 bits as bytes, the lowest first. -/
def le4 (n : Nat) : List UInt8 := [UInt8.ofNat n, UInt8.ofNat (n / 256), UInt8.ofNat (n / 65536), UInt8.ofNat (n / 16777216)]
theorem rev_bytes (n : Nat) (h : n < 4294967296) : revN n / 16777216 % 256 = n % 256 ∧ revN n / 65536 % 256 = n / 256 % 256 ∧ revN n / 256 % 256 = n / 65536 % 256 ∧ revN n % 256 = n / 16777216 % 256 := by
  unfold revN
  have h0 : n % 256 < 256 := Nat.mod_lt _ (by omega)
  have h1 : n / 256 % 256 < 256 := Nat.mod_lt _ (by omega)
  have h2 : n / 65536 % 256 < 256 := Nat.mod_lt _ (by omega)
  have h3 : n / 16777216 < 256 := by omega
  generalize n % 256 = a at *
  generalize n / 256 % 256 = b at *
  generalize n / 65536 % 256 = c at *
  generalize n / 16777216 = d at *
  omega
theorem be_rev (n : Nat) (h : n < 4294967296) : be (revN n) 4 = le4 n := by
  have e : ∀ a b : Nat, a % 256 = b % 256 → UInt8.ofNat a = UInt8.ofNat b := by
    intro a b hab; rw [← UInt8.toNat_inj]; simpa using hab
  obtain ⟨h0, h1, h2, h3⟩ := rev_bytes n h
  generalize revN n = R at *
  unfold le4 be be be be be
  simp only [Nat.reducePow, Nat.div_one]
  rw [e _ _ h0, e _ _ h1, e _ _ h2, e _ _ h3]
theorem le4_length (n : Nat) : (le4 n).length = 4 := rfl

end Go.Proofs.YtjfjliobencppaaGreatDoor

namespace Go.Proofs
open Go.Shelf
def Tryz.laysM316_ren : Go.Shelf.Ren := ⟨fun | 316 => 118 | n => n, fun | 9 => 9 | 3 => 3 | 4 => 4 | 37 => 113 | 0 => 0 | 127 => 196 | 5 => 5 | n => n, fun | n => n⟩
theorem Tryz.laysM316 : Go.Proofs.LaysM.n316 Tryz.prog Tryz.laysM316_ren := {
  mixed := by kernel_rfl
  f316 := Tryz.func118.trans (congrArg some (by kernel_rfl))
  t0 := Tryz.underlying0
  a0 := Tryz.isAgg0
  z0 := Tryz.sizeOf0
  v0 := Tryz.zeroValue0
  t3 := Tryz.underlying3
  a3 := Tryz.isAgg3
  z3 := Tryz.sizeOf3
  v3 := Tryz.zeroValue3
  t4 := Tryz.underlying4
  a4 := Tryz.isAgg4
  z4 := Tryz.sizeOf4
  v4 := Tryz.zeroValue4
  t9 := Tryz.underlying9
  a9 := Tryz.isAgg9
  z9 := Tryz.sizeOf9
  v9 := Tryz.zeroValue9
  t37 := Tryz.underlying113
  a37 := Tryz.isAgg113
  z37 := Tryz.sizeOf113
  v37 := Tryz.zeroValue113
  t127 := Tryz.underlying196
  a127 := Tryz.isAgg196
  z127 := Tryz.sizeOf196
  v127 := Tryz.zeroValue196
  t5 := Tryz.underlying5
  a5 := Tryz.isAgg5
  z5 := Tryz.sizeOf5
  v5 := Tryz.zeroValue5
  i0 := by kernel_rfl
  i3 := by kernel_rfl
  i4 := by kernel_rfl
  i5 := by kernel_rfl
  i9 := by kernel_rfl
  i37 := by kernel_rfl
  i127 := by kernel_rfl }
open Go.RowKit in
/-- internal/stringslite.Clone (what strings.Clone calls): "Clone returns a fresh copy of s.": THE SAME BYTES. Of what was there nothing has turned (a new row is laid, and frozen, where s is not empty). (LAID: no walk: one application.) -/
theorem Tryz.stringslite_Clone (s : ByteArray) (w : World) (hlim : s.size ≤ 281474976710656) :
    Calls Tryz.prog 118 #[.string s] w fun e w' => e = .returned (.string s) ∧ Below w.heap.size w w' := Any.stringslite_Clone Tryz.laysM316 s w hlim
end Go.Proofs
