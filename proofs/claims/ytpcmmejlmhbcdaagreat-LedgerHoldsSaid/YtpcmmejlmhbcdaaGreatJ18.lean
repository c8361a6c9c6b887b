/- SHA-256's constants, plainly: the first primes, and roots of them bit by bit.; Walk of word.Get.; DERIVED: THE SHELF's CONTRACTS AT THIS DUMP, IN PLAIN WORDS (tools/lay-plain.mjs out of 'YtpcmmejlmhbcdaaGreatShelfD.lean', which tools/lay-shelf.mjs wrote): THE SAME DECLARATIONS UNDER THE SAME NAMES: 'import', 'namespace', 'open', 'def', 'theorem' AND NOTHING ELSE: no command of the shelf's: FOR A HAND-IN. Each laying: the table of numbers ('.._ren') and one theorem, a field a fact of the dump's own or the kernel's comparison; each contract: ONE APPLICATION.; Walks of digest.high, digest.root, digest.divided, digest.primes. -/
import Derived.KernelRfl
import Derived.Test.YtpcmmejlmhbcdaaGreatJ00
import Derived.Laws.BitsAllLaws
import Derived.Shelf.Strings.Builder1
import Derived.Shelf.Strings.Builder2
import Derived.Shelf.Strings.OnBuilder
import Derived.Shelf.Strings.BuilderF
import Derived.Shelf.Strings.Prefix
import Derived.Shelf.Bits.Mul64
import Derived.Test.YtpcmmejlmhbcdaaGreatProg
set_option linter.unusedVariables false
set_option linter.unusedSimpArgs false
namespace Go.Proofs.YtpcmmejlmhbcdaaGreat.Dg

def hiU : Nat → Nat → Nat → Nat → Nat
  | 0, _, u, _ => u
  | k + 1, r, u, l => hiU k r ((u * r + l * r / 18446744073709551616) % 18446744073709551616) (l * r % 18446744073709551616)
/-- The higher half of a number to a power. -/
def high (r d : Nat) : Nat := hiU d r 0 1
/-- The bits from the k-th down to the lowest, one by one. -/
def rootL : Nat → Nat → Nat → Nat → Nat
  | 0, most, d, r => if high (r ||| 1) d < most then r ||| 1 else r
  | k + 1, most, d, r => rootL k most d (if high (r ||| 2 ^ (k + 1)) d < most then r ||| 2 ^ (k + 1) else r)
def root (p d : Nat) : Nat := rootL 34 (p * 2 ^ (32 * d - 64)) d 0 % 4294967296
def divB (n : Nat) (l : List Nat) : Bool := l.any fun p => n % p == 0
/-- The primes up to k + 1. -/
def upto : Nat → List Nat
  | 0 => []
  | k + 1 => if divB (k + 2) (upto k) then upto k else upto k ++ [k + 2]
def KS : List Nat := [
  0x428a2f98, 0x71374491, 0xb5c0fbcf, 0xe9b5dba5, 0x3956c25b, 0x59f111f1, 0x923f82a4, 0xab1c5ed5,
  0xd807aa98, 0x12835b01, 0x243185be, 0x550c7dc3, 0x72be5d74, 0x80deb1fe, 0x9bdc06a7, 0xc19bf174,
  0xe49b69c1, 0xefbe4786, 0x0fc19dc6, 0x240ca1cc, 0x2de92c6f, 0x4a7484aa, 0x5cb0a9dc, 0x76f988da,
  0x983e5152, 0xa831c66d, 0xb00327c8, 0xbf597fc7, 0xc6e00bf3, 0xd5a79147, 0x06ca6351, 0x14292967,
  0x27b70a85, 0x2e1b2138, 0x4d2c6dfc, 0x53380d13, 0x650a7354, 0x766a0abb, 0x81c2c92e, 0x92722c85,
  0xa2bfe8a1, 0xa81a664b, 0xc24b8b70, 0xc76c51a3, 0xd192e819, 0xd6990624, 0xf40e3585, 0x106aa070,
  0x19a4c116, 0x1e376c08, 0x2748774c, 0x34b0bcb5, 0x391c0cb3, 0x4ed8aa4a, 0x5b9cca4f, 0x682e6ff3,
  0x748f82ee, 0x78a5636f, 0x84c87814, 0x8cc70208, 0x90befffa, 0xa4506ceb, 0xbef9a3f7, 0xc67178f2]
def HS : List Nat := [0x6a09e667, 0xbb67ae85, 0x3c6ef372, 0xa54ff53a, 0x510e527f, 0x9b05688c, 0x1f83d9ab, 0x5be0cd19]
theorem upto_64 : (upto 309).length = 63 ∧ (upto 310).length = 64 := by decide +kernel
theorem upto_8 : (upto 17).length = 7 ∧ (upto 18).length = 8 := by decide +kernel
theorem keys_are : (upto 310).map (fun p => root p 3) = KS := by decide +kernel
theorem start_is : (upto 18).map (fun p => root p 2) = HS := by decide +kernel
theorem upto_bd : ∀ k, ∀ p ∈ upto k, 2 ≤ p ∧ p ≤ k + 1
  | 0, p, h => by simp [upto] at h
  | k + 1, p, h => by
    unfold upto at h
    split at h
    · have := upto_bd k p h; omega
    · rcases List.mem_append.1 h with h | h
      · have := upto_bd k p h; omega
      · simp at h; omega
theorem upto_succ (k : Nat) : upto (k + 1) = if divB (k + 2) (upto k) then upto k else upto k ++ [k + 2] := rfl
theorem upto_mono (k : Nat) : ∀ j, (upto k).length ≤ (upto (k + j)).length
  | 0 => Nat.le_refl _
  | j + 1 => by
    have := upto_mono k j
    rw [show k + (j + 1) = (k + j) + 1 by omega, upto_succ (k + j)]
    split
    · exact this
    · rw [List.length_append]; omega
/-- How many primes there are up to a number. -/
theorem upto_lt {K n : Nat} (h : (upto K).length < n) {k : Nat} (hk : k ≤ K) : (upto k).length < n := by
  have := upto_mono k (K - k)
  rw [show k + (K - k) = K by omega] at this
  omega
end Go.Proofs.YtpcmmejlmhbcdaaGreat.Dg

namespace Go.Proofs.YtpcmmejlmhbcdaaGreat.W
open Go.RowKit

/-- The number of a list of bytes, the highest first. -/
def gt (l : List UInt8) : Nat := l.foldl (fun n c => n * 256 + c.toNat) 0
theorem gt_snoc (l : List UInt8) (c : UInt8) : gt (l ++ [c]) = gt l * 256 + c.toNat := by simp [gt]
theorem gt_from (l : List UInt8) : ∀ a : Nat, l.foldl (fun n c => n * 256 + c.toNat) a = a * 256 ^ l.length + gt l := by
  induction l with
  | nil => intro a; simp [gt]
  | cons c l ih =>
    intro a
    have e : gt (c :: l) = c.toNat * 256 ^ l.length + gt l := by
      have := ih (0 * 256 + c.toNat)
      simp only [gt, List.foldl_cons] at *
      rw [this]; simp
    rw [List.foldl_cons, ih, e, List.length_cons, Nat.pow_succ, Nat.add_mul]
    rw [Nat.mul_assoc, Nat.mul_comm 256 (256 ^ l.length), Nat.add_assoc]
theorem gt_cons (c : UInt8) (l : List UInt8) : gt (c :: l) = c.toNat * 256 ^ l.length + gt l := by
  have := gt_from l (0 * 256 + c.toNat)
  simp only [gt, List.foldl_cons] at *
  rw [this]; simp
theorem gt_lt (l : List UInt8) : gt l < 256 ^ l.length := by
  induction l with
  | nil => simp [gt]
  | cons c l ih =>
    rw [gt_cons, List.length_cons, Nat.pow_succ]
    have h := c.toNat_lt
    have h2 : c.toNat * 256 ^ l.length ≤ 255 * 256 ^ l.length := Nat.mul_le_mul_right _ (by omega)
    omega

theorem take_snoc (s : ByteArray) (k : Nat) (h : k < s.size) : s.data.toList.take (k + 1) = s.data.toList.take k ++ [s[k]] := by
  rw [List.take_succ_eq_append_getElem (by simpa using h)]; rfl

theorem gt_room (s : ByteArray) (k : Nat) (h : k < s.size) (hm : s.size ≤ 8) : gt (s.data.toList.take k) < 72057594037927936 ∧ gt (s.data.toList.take (k + 1)) = gt (s.data.toList.take k) * 256 + s[k].toNat := by
  have h1 := gt_lt (s.data.toList.take k)
  have h2 : (s.data.toList.take k).length ≤ 7 := by
    have := List.length_take_le k s.data.toList
    omega
  have h3 : 256 ^ (s.data.toList.take k).length ≤ 256 ^ 7 := Nat.pow_le_pow_right (by omega) h2
  refine ⟨by omega, ?_⟩
  rw [take_snoc s k h, gt_snoc]

theorem get_step (s : ByteArray) (k : Nat) (h : k < s.size) (hm : s.size ≤ 8) :
    bits BinOp.or IntKind.u64 (IntKind.u64.wrap ((gt (s.data.toList.take k) : Int) * 256)) (IntKind.u64.wrap (s[k].toNat : Int)) = ((gt (s.data.toList.take (k + 1)) : Nat) : Int) := by
  obtain ⟨h1, h2⟩ := gt_room s k h hm
  have h3 := s[k].toNat_lt
  rw [h2]
  generalize gt (s.data.toList.take k) = g at *
  generalize s[k].toNat = c at *
  rw [IntWalk.u64_in _ ⟨by omega, by omega⟩, IntWalk.u64_in _ ⟨by omega, by omega⟩]
  have := u64_or_nat (g * 256) c (by omega) (by omega)
  rw [nat_join 8 (g * 256) c (by omega) (by omega)] at this
  simpa using this

theorem get_short (s : ByteArray) (hs : s.size = 0) (w : World) : Calls Tryz.prog 136 #[.string s] w fun e w' => e = .returned (.tuple #[.int .u64 0, .int .i64 3]) ∧ w = w' := by
  go_enter Tryz.func136, Tryz.ntmps136
  go_wp2
  go_ret2
  exact ⟨rfl, rfl⟩

theorem get_long (s : ByteArray) (hs : 8 < s.size) (hm : s.size ≤ 100) (w : World) : Calls Tryz.prog 136 #[.string s] w fun e w' => e = .returned (.tuple #[.int .u64 0, .int .i64 5]) ∧ w = w' := by
  go_enter Tryz.func136, Tryz.ntmps136
  go_wp2
  go_ret2
  exact ⟨rfl, rfl⟩

theorem get_ok (s : ByteArray) (hs : 1 ≤ s.size) (hm : s.size ≤ 8) (w : World) : Calls Tryz.prog 136 #[.string s] w fun e w' => e = .returned (.tuple #[.int .u64 (gt s.data.toList), .int .i64 0]) ∧ w = w' := by
  go_enter Tryz.func136, Tryz.ntmps136
  go_wp2
  go_loop [4, 14] (fun n i => ∃ k : Nat, k ≤ s.size ∧ i = .int .i64 k ∧ n = .int .u64 (gt (s.data.toList.take k))) (fun _ i => s.size - (intOf i).toNat)
  case atStart => exact ⟨0, Nat.zero_le _, rfl, rfl⟩
  case round =>
    obtain ⟨k, hk, rfl, rfl⟩ := hrel
    by_cases hlt : k < s.size
    · have HS := Lib.hid (get_step s k hlt hm)
      go_wp2
      go_round
      case rel => exact ⟨k + 1, by omega, by go_num, by rw [← HS.out]⟩
      case measure => simp [intOf]; omega
    · go_wp2
      go_ret2
      have e : k = s.size := by omega
      subst e
      refine ⟨?_, rfl⟩
      rw [List.take_of_length_le (by simp)]
      rfl

end Go.Proofs.YtpcmmejlmhbcdaaGreat.W

namespace Go.Proofs
open Go.Shelf
def Tryz.lays156_ren : Go.Shelf.Ren := ⟨fun | 156 => 120 | 165 => 130 | 166 => 131 | 169 => 132 | 240 => 150 | 241 => 151 | 276 => 163 | 277 => 164 | n => n, fun | 31 => 103 | 9 => 9 | 3 => 3 | 4 => 4 | 0 => 0 | 20 => 20 | 72 => 188 | 76 => 191 | 70 => 186 | 37 => 117 | 75 => 190 | 127 => 173 | 164 => 224 | 5 => 5 | 80 => 45 | n => n, fun | n => n⟩
theorem Tryz.lays156 : Go.Proofs.Lays.n156 Tryz.prog Tryz.lays156_ren := {
  mixed := by kernel_rfl
  f156 := Tryz.func120.trans (congrArg some (by kernel_rfl))
  f165 := Tryz.func130.trans (congrArg some (by kernel_rfl))
  f166 := Tryz.func131.trans (congrArg some (by kernel_rfl))
  f169 := Tryz.func132.trans (congrArg some (by kernel_rfl))
  f240 := Tryz.func150.trans (congrArg some (by kernel_rfl))
  f241 := Tryz.func151.trans (congrArg some (by kernel_rfl))
  f276 := Tryz.func163.trans (congrArg some (by kernel_rfl))
  f277 := Tryz.func164.trans (congrArg some (by kernel_rfl))
  t0 := Tryz.underlying0
  a0 := Tryz.isAgg0
  z0 := Tryz.sizeOf0
  v0 := Tryz.zeroValue0
  t3 := Tryz.underlying3
  a3 := Tryz.isAgg3
  z3 := Tryz.sizeOf3
  v3 := Tryz.zeroValue3
  t4 := Tryz.underlying4
  a4 := Tryz.isAgg4
  z4 := Tryz.sizeOf4
  v4 := Tryz.zeroValue4
  t9 := Tryz.underlying9
  a9 := Tryz.isAgg9
  z9 := Tryz.sizeOf9
  v9 := Tryz.zeroValue9
  t20 := Tryz.underlying20
  a20 := Tryz.isAgg20
  z20 := Tryz.sizeOf20
  v20 := Tryz.zeroValue20
  t31 := Tryz.underlying103
  a31 := Tryz.isAgg103
  z31 := Tryz.sizeOf103
  v31 := Tryz.zeroValue103
  t37 := Tryz.underlying117
  a37 := Tryz.isAgg117
  z37 := Tryz.sizeOf117
  v37 := Tryz.zeroValue117
  t70 := Tryz.underlying186
  a70 := Tryz.isAgg186
  z70 := Tryz.sizeOf186
  v70 := Tryz.zeroValue186
  t72 := Tryz.underlying188
  a72 := Tryz.isAgg188
  z72 := Tryz.sizeOf188
  v72 := Tryz.zeroValue188
  t75 := Tryz.underlying190
  a75 := Tryz.isAgg190
  z75 := Tryz.sizeOf190
  v75 := Tryz.zeroValue190
  t76 := Tryz.underlying191
  a76 := Tryz.isAgg191
  z76 := Tryz.sizeOf191
  v76 := Tryz.zeroValue191
  t127 := Tryz.underlying173
  a127 := Tryz.isAgg173
  z127 := Tryz.sizeOf173
  v127 := Tryz.zeroValue173
  t164 := Tryz.underlying224
  a164 := Tryz.isAgg224
  z164 := Tryz.sizeOf224
  v164 := Tryz.zeroValue224 }
theorem Tryz.Builder_Extra_156 : Builder.Extra Tryz.prog Tryz.lays156_ren := {
  sizeBuilder := by kernel_rfl
  liesBuilder := by kernel_rfl
  t5 := Tryz.underlying5
  a5 := Tryz.isAgg5
  z5 := Tryz.sizeOf5
  v5 := Tryz.zeroValue5
  infoByte := by kernel_rfl
  cellsByte := by kernel_rfl
  sizeByte := by kernel_rfl
  neB5 := by decide }
open Go.RowKit in
/-- No element: the empty string; the world is as it was. (Whatever the slice's address and capacity: a nil slice too.) (LAID: no walk: one application.) -/
theorem Tryz.strings_Join_none (a : Option Addr) (c : Nat) (sep : ByteArray) (w : World) :
    Calls Tryz.prog 120 #[.slice a 0 c, .string sep] w fun e w' => e = .returned (.string ⟨#[]⟩) ∧ w' = w := Any.strings_Join_none Tryz.lays156 Tryz.Builder_Extra_156 a c sep w
open Go.RowKit in
/-- strings.Join: "Join concatenates the elements of its first argument to create a single string. The separator string sep is placed between elements in the resulting string.": HOWEVER MANY ELEMENTS. Below the heap's end the world is as it was. (LAID: no walk: one application.) -/
theorem Tryz.strings_Join (bk o c : Nat) (xs : List ByteArray) (sep : ByteArray) (w : World) (hcells : ∀ (j : Nat) x, xs[j]? = some x → w.cell? ⟨bk, o + j, none⟩ = some (.string x)) (hbk : bk < w.heap.size) (hN : xs.length ≤ 140737488355328) (hcap : xs.length ≤ c) (hlen : (Lib.join (xs.map (·.data.toList)) sep.data.toList).length ≤ 140737488355328) :
    Calls Tryz.prog 120 #[.slice (some ⟨bk, o, none⟩) xs.length c, .string sep] w fun e w' => e = .returned (.string ⟨(Lib.join (xs.map (·.data.toList)) sep.data.toList).toArray⟩) ∧ Below w.heap.size w w' := Any.strings_Join Tryz.lays156 Tryz.Builder_Extra_156 bk o c xs sep w hcells hbk hN hcap hlen
def Tryz.lays99_ren : Go.Shelf.Ren := ⟨fun | 99 => 116 | 206 => 128 | n => n, fun | 9 => 9 | 4 => 4 | 3 => 3 | n => n, fun | n => n⟩
theorem Tryz.lays99 : Go.Proofs.Lays.n99 Tryz.prog Tryz.lays99_ren := {
  mixed := by kernel_rfl
  f99 := Tryz.func116.trans (congrArg some (by kernel_rfl))
  f206 := Tryz.func128.trans (congrArg some (by kernel_rfl))
  t3 := Tryz.underlying3
  a3 := Tryz.isAgg3
  z3 := Tryz.sizeOf3
  v3 := Tryz.zeroValue3
  t4 := Tryz.underlying4
  a4 := Tryz.isAgg4
  z4 := Tryz.sizeOf4
  v4 := Tryz.zeroValue4
  t9 := Tryz.underlying9
  a9 := Tryz.isAgg9
  z9 := Tryz.sizeOf9
  v9 := Tryz.zeroValue9 }
open Go.RowKit Go.Lib in
/-- strings.HasPrefix: "HasPrefix reports whether the string s begins with prefix.": IT RETURNS 'Lib.hasPrefix s prefix'; the world is as it was. (LAID: no walk: one application.) -/
theorem Tryz.strings_HasPrefix (s p : ByteArray) (w : World) :
    Calls Tryz.prog 116 #[.string s, .string p] w fun e w' => e = .returned (.bool (Lib.hasPrefix s.data.toList p.data.toList)) ∧ w' = w := Any.strings_HasPrefix Tryz.lays99 s p w
def Tryz.lays264_ren : Go.Shelf.Ren := ⟨fun | 264 => 162 | n => n, fun | 53 => 78 | 46 => 138 | n => n, fun | n => n⟩
theorem Tryz.lays264 : Go.Proofs.Lays.n264 Tryz.prog Tryz.lays264_ren := {
  mixed := by kernel_rfl
  f264 := Tryz.func162.trans (congrArg some (by kernel_rfl))
  t46 := Tryz.underlying138
  a46 := Tryz.isAgg138
  z46 := Tryz.sizeOf138
  v46 := Tryz.zeroValue138
  t53 := Tryz.underlying78
  a53 := Tryz.isAgg78
  z53 := Tryz.sizeOf78
  v53 := Tryz.zeroValue78 }
open Go.RowKit Go.Lib in
theorem Tryz.bits_Mul64 (x y : Nat) (hx : x < 18446744073709551616) (hy : y < 18446744073709551616) (w : World) :
    Calls Tryz.prog 162 #[.int .u64 x, .int .u64 y] w fun e w' => e = .returned (.tuple #[.int .u64 ((x * y / 18446744073709551616 : Nat) : Int), .int .u64 ((x * y % 18446744073709551616 : Nat) : Int)]) ∧ w' = w := Any.bits_Mul64 Tryz.lays264 x y hx hy w
end Go.Proofs

namespace Go.Proofs.YtpcmmejlmhbcdaaGreat.Dg
open Go.RowKit

theorem hw_step (u r o : Nat) : IntKind.u64.wrap (IntKind.u64.wrap ((u : Int) * (r : Int)) + (o : Int)) = (((u * r + o) % 18446744073709551616 : Nat) : Int) := by
  rw [IntKind.wrap_u64, IntKind.wrap_u64]
  have : (u : Int) * (r : Int) = ((u * r : Nat) : Int) := by simp
  rw [this]
  omega
theorem high_any (r d : Nat) (hr : r < 18446744073709551616) (hd : d ≤ 3) (w : World) :
    Calls Tryz.prog 153 #[.int .u64 (r : Int), .int .i64 (d : Int)] w fun e w' => e = .returned (.int .u64 (high r d : Nat)) ∧ w = w' := by
  obtain ⟨H, hH⟩ : ∃ H, high r d = H := ⟨_, rfl⟩
  rw [hH]
  have HH := Lib.hid hH
  have HR := Lib.hid hr
  clear hH hr
  go_enter Tryz.func153, Tryz.ntmps153
  go_wp2
  go_loop [5, 6, 10] (fun x y i => ∃ (k u l : Nat), k ≤ d ∧ i = .int .i64 k ∧ x = .int .u64 u ∧ y = .int .u64 l ∧ l < 18446744073709551616 ∧ Hid (hiU (d - k) r u l = H)) (fun _ _ i => d - (intOf i).toNat)
  case atStart => exact ⟨0, 0, 1, by omega, rfl, rfl, rfl, by omega, HH⟩
  case round =>
    obtain ⟨k, u, l, hk, rfl, rfl, rfl, hl, hH⟩ := hrel
    by_cases hlt : k < d
    · have KM := Lib.hid (Tryz.bits_Mul64 l r hl HR.out)
      have hs := hw_step u r (l * r / 18446744073709551616)
      have hH2 : Hid (hiU (d - (k + 1)) r ((u * r + l * r / 18446744073709551616) % 18446744073709551616) (l * r % 18446744073709551616) = H) := Lib.hid (by
        have := hH.out
        rw [show d - k = (d - (k + 1)) + 1 by omega] at this
        exact this)
      have hl2 : l * r % 18446744073709551616 < 18446744073709551616 := Nat.mod_lt _ (by omega)
      clear hl hH
      generalize l * r % 18446744073709551616 = l2 at *
      generalize l * r / 18446744073709551616 = o at *
      generalize (u * r + o) % 18446744073709551616 = u2 at *
      go_wp2_with ((go_at_call 162; ((with_reducible refine (KM.out _).mono ?_); rintro e w1 ⟨rfl, rfl⟩)))
      go_round
      case rel => exact ⟨k + 1, u2, l2, by omega, by go_num, by rw [← hs], rfl, hl2, hH2⟩
      case measure => simp [intOf]; omega
    · have e : d - k = 0 := by omega
      have h := hH.out
      rw [e] at h
      have HE := Lib.hid h
      clear h hH e
      go_wp2
      go_ret
      rw [← HE.out]
      exact ⟨rfl, rfl⟩

/-- What holds at each jump back. -/
def RootJ (p D : Int) (d most R : Nat) (w : World) (a' : Act) (w' : World) : Prop :=
  w = w' ∧ ∃ (k r : Nat) (u2 u3 u4 u8 u9 u10 u11 u12 u13 u14 u15 u16 u17 u18 u19 u20 u21 u22 u23 u24 u25 u26 u27 u28 : Value), a' = { tmps := #[.int .u64 p, .int .i64 D, u2, u3, u4, .int .u64 most, .int .u64 r, .int .u64 (2 ^ k : Nat), u8, u9, u10, u11, u12, u13, u14, u15, u16, u17, u18, u19, u20, u21, u22, u23, u24, u25, u26, u27, u28], defers := [] } ∧ k ≤ 33 ∧ r < 34359738368 ∧ rootL k most d r = R
theorem or_nat (r k : Nat) (hr : r < 34359738368) (hk : k ≤ 34) : bits BinOp.or IntKind.u64 (r : Int) ((2 ^ k : Nat) : Int) = ((r ||| 2 ^ k : Nat) : Int) ∧ (r ||| 2 ^ k) < 34359738368 := by
  have h2 : 2 ^ k ≤ 2 ^ 34 := Nat.pow_le_pow_right (by omega) hk
  have h3 : (2 : Nat) ^ 34 = 17179869184 := rfl
  exact ⟨u64_or_nat r (2 ^ k) (by omega) (by omega), Nat.or_lt_two_pow (n := 35) hr (show 2 ^ k < 2 ^ 35 by have : (2 : Nat) ^ 35 = 34359738368 := rfl; omega)⟩

theorem rootL_succ (k most d r : Nat) : rootL (k + 1) most d r = rootL k most d (if high (r ||| 2 ^ (k + 1)) d < most then r ||| 2 ^ (k + 1) else r) := rfl
theorem rootL_zero (most d r : Nat) : rootL 0 most d r = if high (r ||| 2 ^ 0) d < most then r ||| 2 ^ 0 else r := rfl
theorem half_pow (k : Nat) : ((2 ^ (k + 1) : Nat) : Int) / 2 = ((2 ^ k : Nat) : Int) := by rw [Nat.pow_succ]; omega

set_option maxRecDepth 1000000 in
theorem root_core (p d most R : Nat) (D : Int) (hD : D = (d : Int)) (hd : (d = 2 ∧ IntKind.u64.wrap (p : Int) = (most : Int)) ∨ (d = 3 ∧ IntKind.u64.wrap ((p : Int) * 4294967296) = (most : Int))) (hR : Hid (rootL (33 + 1) most d 0 = R)) (w : World) :
    Calls Tryz.prog 134 #[.int .u64 (p : Int), .int .i64 D] w fun e w' => e = .returned (.int .u32 ((R % 4294967296 : Nat) : Int)) ∧ w = w' := by
  have hd3 : d ≤ 3 := by omega
  have KALL : Hid (∀ r : Nat, r < 34359738368 → ∀ w, Calls Tryz.prog 153 #[.int .u64 (r : Int), .int .i64 D] w fun e w' => e = .returned (.int .u64 (high r d : Nat)) ∧ w = w') := Lib.hid (fun r hr w => by rw [hD]; exact high_any r d (by omega) hd3 w)
  have K0 : Hid (∀ w, Calls Tryz.prog 153 #[.int .u64 17179869184, .int .i64 D] w fun e w' => e = .returned (.int .u64 (high 17179869184 d : Nat)) ∧ w = w') := by
    have h := KALL.out 17179869184 (by omega)
    generalize high 17179869184 d = x at *
    exact Lib.hid h
  have hor0 : bits BinOp.or IntKind.u64 0 17179869184 = 17179869184 := by decide +kernel
  have hdd : (D = 2 ∧ IntKind.u64.wrap (p : Int) = (most : Int)) ∨ (D = 3 ∧ IntKind.u64.wrap ((p : Int) * 4294967296) = (most : Int)) := by
    rcases hd with ⟨rfl, h⟩ | ⟨rfl, h⟩
    · exact Or.inl ⟨hD, h⟩
    · exact Or.inr ⟨hD, h⟩
  clear hd hd3 hD
  rcases hdd with ⟨rfl, hm⟩ | ⟨rfl, hm⟩
  · go_enter Tryz.func134, Tryz.ntmps134
    go_wp2
    refine wp_scope_jumps 0 (RootJ p 2 d most R w) (fun a' _ => (intOf (a'.tmps.getD 7 undef)).toNat) rfl ?_ ?_
    · by_cases h : high 17179869184 d < most
      · have HJ : Hid (rootL 33 most d 17179869184 = R) := Lib.hid (by
          have := hR.out
          rw [rootL_succ, show (0 : Nat) ||| 2 ^ (33 + 1) = 17179869184 from rfl, if_pos h] at this
          exact this)
        clear hR
        generalize high 17179869184 d = H at *
        go_wp2_with ((go_at_call 153; ((with_reducible refine (K0.out _).mono ?_); rintro e w1 ⟨rfl, rfl⟩)))
        go_step3
        go_wp2_with ((go_at_call 153; ((with_reducible refine (K0.out _).mono ?_); rintro e w1 ⟨rfl, rfl⟩)))
        go_step3
        exact ⟨rfl, rfl, 33, 17179869184, _, _, _, _, _, _, _, _, _, _, _, _, _, _, _, _, _, _, _, _, _, _, _, _, rfl, by omega, by omega, HJ.out⟩
      · have HJ : Hid (rootL 33 most d 0 = R) := Lib.hid (by
          have := hR.out
          rw [rootL_succ, show (0 : Nat) ||| 2 ^ (33 + 1) = 17179869184 from rfl, if_neg h] at this
          exact this)
        clear hR
        generalize high 17179869184 d = H at *
        go_wp2_with ((go_at_call 153; ((with_reducible refine (K0.out _).mono ?_); rintro e w1 ⟨rfl, rfl⟩)))
        go_step3
        go_wp2_with ((go_at_call 153; ((with_reducible refine (K0.out _).mono ?_); rintro e w1 ⟨rfl, rfl⟩)))
        go_step3
        exact ⟨rfl, rfl, 33, 0, _, _, _, _, _, _, _, _, _, _, _, _, _, _, _, _, _, _, _, _, _, _, _, _, rfl, by omega, by omega, HJ.out⟩
    · rintro a' w' ⟨rfl, k, r, u2, u3, u4, u8, u9, u10, u11, u12, u13, u14, u15, u16, u17, u18, u19, u20, u21, u22, u23, u24, u25, u26, u27, u28, rfl, hk, hr, hR⟩
      clear K0 hor0 hm
      obtain ⟨ho, hq⟩ := or_nat r k hr (by omega)
      have KH := Lib.hid (KALL.out (r ||| 2 ^ k) hq)
      obtain rfl | ⟨j, rfl⟩ : k = 0 ∨ ∃ j, k = j + 1 := by cases k with
        | zero => exact Or.inl rfl
        | succ j => exact Or.inr ⟨j, rfl⟩
      · rw [rootL_zero] at hR
        have hh : ((2 ^ 0 : Nat) : Int) / 2 = 0 := rfl
        by_cases h : high (r ||| 2 ^ 0) d < most
        · rw [if_pos h] at hR
          have HR := Lib.hid hR
          clear hR
          generalize high (r ||| 2 ^ 0) d = H at *
          generalize r ||| 2 ^ 0 = q at *
          generalize (2 : Nat) ^ 0 = X at *
          go_wp2_with ((go_at_call 153; ((with_reducible refine (KH.out _).mono ?_); rintro e w1 ⟨rfl, rfl⟩)))
          simp only [Exit.jump]
          go_ret
          rw [← HR.out]
          exact ⟨rfl, rfl⟩
        · rw [if_neg h] at hR
          have HR := Lib.hid hR
          clear hR
          generalize high (r ||| 2 ^ 0) d = H at *
          generalize r ||| 2 ^ 0 = q at *
          generalize (2 : Nat) ^ 0 = X at *
          go_wp2_with ((go_at_call 153; ((with_reducible refine (KH.out _).mono ?_); rintro e w1 ⟨rfl, rfl⟩)))
          simp only [Exit.jump]
          go_ret
          rw [← HR.out]
          exact ⟨rfl, rfl⟩
      · rw [rootL_succ] at hR
        have hh := half_pow j
        have hpos : 0 < 2 ^ j := Nat.two_pow_pos j
        by_cases h : high (r ||| 2 ^ (j + 1)) d < most
        · rw [if_pos h] at hR
          have HR := Lib.hid hR
          clear hR
          generalize high (r ||| 2 ^ (j + 1)) d = H at *
          generalize r ||| 2 ^ (j + 1) = q at *
          have hlt : 2 ^ j < 2 ^ (j + 1) := Nat.pow_lt_pow_right (by omega) (by omega)
          have HLT := Lib.hid hlt
          clear hlt
          generalize hX : (2 : Nat) ^ (j + 1) = X at *
          generalize hY : (2 : Nat) ^ j = Y at *
          have HY := Lib.hid hY
          clear hX hY
          go_wp2_with ((go_at_call 153; ((with_reducible refine (KH.out _).mono ?_); rintro e w1 ⟨rfl, rfl⟩)))
          go_step3
          refine ⟨rfl, ⟨rfl, j, q, _, _, _, _, _, _, _, _, _, _, _, _, _, _, _, _, _, _, _, _, _, _, _, _, by rw [HY.out], by omega, hq, HR.out⟩, ?_⟩
          have := HLT.out
          simp [intOf]; omega
        · rw [if_neg h] at hR
          have HR := Lib.hid hR
          clear hR
          generalize high (r ||| 2 ^ (j + 1)) d = H at *
          generalize r ||| 2 ^ (j + 1) = q at *
          have hlt : 2 ^ j < 2 ^ (j + 1) := Nat.pow_lt_pow_right (by omega) (by omega)
          have HLT := Lib.hid hlt
          clear hlt
          generalize hX : (2 : Nat) ^ (j + 1) = X at *
          generalize hY : (2 : Nat) ^ j = Y at *
          have HY := Lib.hid hY
          clear hX hY
          go_wp2_with ((go_at_call 153; ((with_reducible refine (KH.out _).mono ?_); rintro e w1 ⟨rfl, rfl⟩)))
          go_step3
          refine ⟨rfl, ⟨rfl, j, r, _, _, _, _, _, _, _, _, _, _, _, _, _, _, _, _, _, _, _, _, _, _, _, _, by rw [HY.out], by omega, hr, HR.out⟩, ?_⟩
          have := HLT.out
          simp [intOf]; omega
  · go_enter Tryz.func134, Tryz.ntmps134
    go_wp2
    refine wp_scope_jumps 0 (RootJ p 3 d most R w) (fun a' _ => (intOf (a'.tmps.getD 7 undef)).toNat) rfl ?_ ?_
    · by_cases h : high 17179869184 d < most
      · have HJ : Hid (rootL 33 most d 17179869184 = R) := Lib.hid (by
          have := hR.out
          rw [rootL_succ, show (0 : Nat) ||| 2 ^ (33 + 1) = 17179869184 from rfl, if_pos h] at this
          exact this)
        clear hR
        generalize high 17179869184 d = H at *
        go_wp2_with ((go_at_call 153; ((with_reducible refine (K0.out _).mono ?_); rintro e w1 ⟨rfl, rfl⟩)))
        go_step3
        go_wp2_with ((go_at_call 153; ((with_reducible refine (K0.out _).mono ?_); rintro e w1 ⟨rfl, rfl⟩)))
        go_step3
        exact ⟨rfl, rfl, 33, 17179869184, _, _, _, _, _, _, _, _, _, _, _, _, _, _, _, _, _, _, _, _, _, _, _, _, rfl, by omega, by omega, HJ.out⟩
      · have HJ : Hid (rootL 33 most d 0 = R) := Lib.hid (by
          have := hR.out
          rw [rootL_succ, show (0 : Nat) ||| 2 ^ (33 + 1) = 17179869184 from rfl, if_neg h] at this
          exact this)
        clear hR
        generalize high 17179869184 d = H at *
        go_wp2_with ((go_at_call 153; ((with_reducible refine (K0.out _).mono ?_); rintro e w1 ⟨rfl, rfl⟩)))
        go_step3
        go_wp2_with ((go_at_call 153; ((with_reducible refine (K0.out _).mono ?_); rintro e w1 ⟨rfl, rfl⟩)))
        go_step3
        exact ⟨rfl, rfl, 33, 0, _, _, _, _, _, _, _, _, _, _, _, _, _, _, _, _, _, _, _, _, _, _, _, _, rfl, by omega, by omega, HJ.out⟩
    · rintro a' w' ⟨rfl, k, r, u2, u3, u4, u8, u9, u10, u11, u12, u13, u14, u15, u16, u17, u18, u19, u20, u21, u22, u23, u24, u25, u26, u27, u28, rfl, hk, hr, hR⟩
      clear K0 hor0 hm
      obtain ⟨ho, hq⟩ := or_nat r k hr (by omega)
      have KH := Lib.hid (KALL.out (r ||| 2 ^ k) hq)
      obtain rfl | ⟨j, rfl⟩ : k = 0 ∨ ∃ j, k = j + 1 := by cases k with
        | zero => exact Or.inl rfl
        | succ j => exact Or.inr ⟨j, rfl⟩
      · rw [rootL_zero] at hR
        have hh : ((2 ^ 0 : Nat) : Int) / 2 = 0 := rfl
        by_cases h : high (r ||| 2 ^ 0) d < most
        · rw [if_pos h] at hR
          have HR := Lib.hid hR
          clear hR
          generalize high (r ||| 2 ^ 0) d = H at *
          generalize r ||| 2 ^ 0 = q at *
          generalize (2 : Nat) ^ 0 = X at *
          go_wp2_with ((go_at_call 153; ((with_reducible refine (KH.out _).mono ?_); rintro e w1 ⟨rfl, rfl⟩)))
          simp only [Exit.jump]
          go_ret
          rw [← HR.out]
          exact ⟨rfl, rfl⟩
        · rw [if_neg h] at hR
          have HR := Lib.hid hR
          clear hR
          generalize high (r ||| 2 ^ 0) d = H at *
          generalize r ||| 2 ^ 0 = q at *
          generalize (2 : Nat) ^ 0 = X at *
          go_wp2_with ((go_at_call 153; ((with_reducible refine (KH.out _).mono ?_); rintro e w1 ⟨rfl, rfl⟩)))
          simp only [Exit.jump]
          go_ret
          rw [← HR.out]
          exact ⟨rfl, rfl⟩
      · rw [rootL_succ] at hR
        have hh := half_pow j
        have hpos : 0 < 2 ^ j := Nat.two_pow_pos j
        by_cases h : high (r ||| 2 ^ (j + 1)) d < most
        · rw [if_pos h] at hR
          have HR := Lib.hid hR
          clear hR
          generalize high (r ||| 2 ^ (j + 1)) d = H at *
          generalize r ||| 2 ^ (j + 1) = q at *
          have hlt : 2 ^ j < 2 ^ (j + 1) := Nat.pow_lt_pow_right (by omega) (by omega)
          have HLT := Lib.hid hlt
          clear hlt
          generalize hX : (2 : Nat) ^ (j + 1) = X at *
          generalize hY : (2 : Nat) ^ j = Y at *
          have HY := Lib.hid hY
          clear hX hY
          go_wp2_with ((go_at_call 153; ((with_reducible refine (KH.out _).mono ?_); rintro e w1 ⟨rfl, rfl⟩)))
          go_step3
          refine ⟨rfl, ⟨rfl, j, q, _, _, _, _, _, _, _, _, _, _, _, _, _, _, _, _, _, _, _, _, _, _, _, _, by rw [HY.out], by omega, hq, HR.out⟩, ?_⟩
          have := HLT.out
          simp [intOf]; omega
        · rw [if_neg h] at hR
          have HR := Lib.hid hR
          clear hR
          generalize high (r ||| 2 ^ (j + 1)) d = H at *
          generalize r ||| 2 ^ (j + 1) = q at *
          have hlt : 2 ^ j < 2 ^ (j + 1) := Nat.pow_lt_pow_right (by omega) (by omega)
          have HLT := Lib.hid hlt
          clear hlt
          generalize hX : (2 : Nat) ^ (j + 1) = X at *
          generalize hY : (2 : Nat) ^ j = Y at *
          have HY := Lib.hid hY
          clear hX hY
          go_wp2_with ((go_at_call 153; ((with_reducible refine (KH.out _).mono ?_); rintro e w1 ⟨rfl, rfl⟩)))
          go_step3
          refine ⟨rfl, ⟨rfl, j, r, _, _, _, _, _, _, _, _, _, _, _, _, _, _, _, _, _, _, _, _, _, _, _, _, by rw [HY.out], by omega, hr, HR.out⟩, ?_⟩
          have := HLT.out
          simp [intOf]; omega
end Go.Proofs.YtpcmmejlmhbcdaaGreat.Dg
