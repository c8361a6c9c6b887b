/- SHA-256's constants, plainly: the first primes, and roots of them bit by bit.; The plain words of layer 1, bytes of numbers, and what the call's own bytes give as a string.; Walk of word.Get. -/
import Derived.KernelRfl
import Derived.Test.YtjkpopdjmmgbbabGreatRows
import Derived.WalkKit
import Derived.WalkLawsBesides
import Derived.Outline
import Derived.Laws.IdiomStrings
import Derived.Lib.Hide
import Derived.WalkSpells
import Derived.Deep.DeepCutAuto
import Derived.Deep.CutBlock
import Derived.Deep.QuietTactic
import Derived.BigQuiet
import Derived.Deep.RegionHeld3
import Derived.Deep.LoopGhost
import Derived.StillTailTactics
import Derived.Deep.RegionWith
import Derived.Deep.DeepFit
import Derived.Deep.Light
import Derived.Deep.RegionLaw
import Derived.Laws.Externs
import Derived.Laws.BitsAllLaws
set_option linter.unusedVariables false
set_option linter.unusedSimpArgs false
namespace Go.Proofs.YtjkpopdjmmgbbabGreat.Dg

def hiU : Nat → Nat → Nat → Nat → Nat
  | 0, _, u, _ => u
  | k + 1, r, u, l => hiU k r ((u * r + l * r / 18446744073709551616) % 18446744073709551616) (l * r % 18446744073709551616)
/-- The higher half of a number to a power. -/
def high (r d : Nat) : Nat := hiU d r 0 1
/-- The bits from the k-th down to the lowest, one by one. -/
def rootL : Nat → Nat → Nat → Nat → Nat
  | 0, most, d, r => if high (r ||| 1) d < most then r ||| 1 else r
  | k + 1, most, d, r => rootL k most d (if high (r ||| 2 ^ (k + 1)) d < most then r ||| 2 ^ (k + 1) else r)
def root (p d : Nat) : Nat := rootL 34 (p * 2 ^ (32 * d - 64)) d 0 % 4294967296
def divB (n : Nat) (l : List Nat) : Bool := l.any fun p => n % p == 0
/-- The primes up to k + 1. -/
def upto : Nat → List Nat
  | 0 => []
  | k + 1 => if divB (k + 2) (upto k) then upto k else upto k ++ [k + 2]
def KS : List Nat := [
  0x428a2f98, 0x71374491, 0xb5c0fbcf, 0xe9b5dba5, 0x3956c25b, 0x59f111f1, 0x923f82a4, 0xab1c5ed5,
  0xd807aa98, 0x12835b01, 0x243185be, 0x550c7dc3, 0x72be5d74, 0x80deb1fe, 0x9bdc06a7, 0xc19bf174,
  0xe49b69c1, 0xefbe4786, 0x0fc19dc6, 0x240ca1cc, 0x2de92c6f, 0x4a7484aa, 0x5cb0a9dc, 0x76f988da,
  0x983e5152, 0xa831c66d, 0xb00327c8, 0xbf597fc7, 0xc6e00bf3, 0xd5a79147, 0x06ca6351, 0x14292967,
  0x27b70a85, 0x2e1b2138, 0x4d2c6dfc, 0x53380d13, 0x650a7354, 0x766a0abb, 0x81c2c92e, 0x92722c85,
  0xa2bfe8a1, 0xa81a664b, 0xc24b8b70, 0xc76c51a3, 0xd192e819, 0xd6990624, 0xf40e3585, 0x106aa070,
  0x19a4c116, 0x1e376c08, 0x2748774c, 0x34b0bcb5, 0x391c0cb3, 0x4ed8aa4a, 0x5b9cca4f, 0x682e6ff3,
  0x748f82ee, 0x78a5636f, 0x84c87814, 0x8cc70208, 0x90befffa, 0xa4506ceb, 0xbef9a3f7, 0xc67178f2]
def HS : List Nat := [0x6a09e667, 0xbb67ae85, 0x3c6ef372, 0xa54ff53a, 0x510e527f, 0x9b05688c, 0x1f83d9ab, 0x5be0cd19]
theorem upto_64 : (upto 309).length = 63 ∧ (upto 310).length = 64 := by decide +kernel
theorem upto_8 : (upto 17).length = 7 ∧ (upto 18).length = 8 := by decide +kernel
theorem keys_are : (upto 310).map (fun p => root p 3) = KS := by decide +kernel
theorem start_is : (upto 18).map (fun p => root p 2) = HS := by decide +kernel
theorem upto_bd : ∀ k, ∀ p ∈ upto k, 2 ≤ p ∧ p ≤ k + 1
  | 0, p, h => by simp [upto] at h
  | k + 1, p, h => by
    unfold upto at h
    split at h
    · have := upto_bd k p h; omega
    · rcases List.mem_append.1 h with h | h
      · have := upto_bd k p h; omega
      · simp at h; omega
theorem upto_succ (k : Nat) : upto (k + 1) = if divB (k + 2) (upto k) then upto k else upto k ++ [k + 2] := rfl
theorem upto_mono (k : Nat) : ∀ j, (upto k).length ≤ (upto (k + j)).length
  | 0 => Nat.le_refl _
  | j + 1 => by
    have := upto_mono k j
    rw [show k + (j + 1) = (k + j) + 1 by omega, upto_succ (k + j)]
    split
    · exact this
    · rw [List.length_append]; omega
/-- How many primes there are up to a number. -/
theorem upto_lt {K n : Nat} (h : (upto K).length < n) {k : Nat} (hk : k ≤ K) : (upto k).length < n := by
  have := upto_mono k (K - k)
  rw [show k + (K - k) = K by omega] at this
  omega
end Go.Proofs.YtjkpopdjmmgbbabGreat.Dg

namespace Go.Proofs.YtjkpopdjmmgbbabGreat.W
open Go.RowKit

/-- The cells of a row of bytes. -/
def bcells (l : List UInt8) : List Value := l.map fun c => .int .u8 (c.toNat : Int)
/-- The string of a list of bytes. -/
def str (l : List UInt8) : ByteArray := ⟨l.toArray⟩

/-- A number by sevens of bits. -/
def sh (n : Nat) : List UInt8 := if h : 127 < n then UInt8.ofNat (n % 128 + 128) :: sh (n / 128) else [UInt8.ofNat n]
termination_by n
decreasing_by omega

theorem Tryz.info5 : (Tryz.prog.info? 5).map (fun i => (i.zero, i.size, i.bytes)) = some (some (.int .u8 0), 1, 1) := by kernel_rfl

theorem own_string {w : World} {B n : Nat} {v : Value} {l : List UInt8} (h : w.ownsRow B 5 1 v n (bcells l)) :
    (convert 51 9 v).run Tryz.prog w = .ok (.string (str l)) w := by
  have hlen : l.length = n := by have := h.1; simpa [bcells] using this
  rcases h.2 with ⟨rfl, hn⟩ | ⟨g, cap, cur, rfl, _⟩
  · have hl : l = [] := List.eq_nil_of_length_eq_zero (by omega)
    subst hl
    rw [run_convert_bytes_string w 51 9 5 none 0 0 Tryz.underlying51 Tryz.underlying5 Tryz.underlying9]; rfl
  · have h2 := run_convert_bytes_back (P := Tryz.prog) w 51 9 5 ⟨g, 0, none⟩ cap l Tryz.underlying51 Tryz.underlying5 Tryz.underlying9 (fun j hj => by
      have := h.cells (g := g) rfl j (.int .u8 (l[j].toNat : Int)) (by simp [bcells, hj])
      exact this)
    rw [hlen] at h2
    exact h2

theorem bcells_snoc (l : List UInt8) (n : Nat) (h : n < 256) : bcells l ++ [.int .u8 (n : Int)] = bcells (l ++ [UInt8.ofNat n]) := by
  simp [bcells, Nat.mod_eq_of_lt h]

/-- 'b = append(b, c)' of one byte, b nil or the call's own. -/
theorem wpList_append_byte (W : World) {ops : Array Oper} {rest : List Oper} {o : Oper} {a : Act} {Q : Exit → Act → World → Prop} (hgd : o.guard = none) (s x : Operand)
    (ho : o.op = .call { callee := .builtin .append, args := #[s, x], argTypes := #[51, 51] })
    (B : Nat) (v : Value) (k : Nat) (l : List UInt8) (hs : a.eval s = v) (hown : W.ownsRow B 5 1 v k (bcells l))
    (c : Int) (n : Nat) (hc : c = (n : Int)) (hn : n < 256) (hx : a.eval x = .slice (some ⟨W.heap.size, 0, none⟩) 1 1)
    (hk : k + 1 ≤ 140737488355328) (hB : B ≤ W.heap.size)
    (h : ∀ v' w', w'.ownsRow B 5 1 v' (k + 1) (bcells (l ++ [UInt8.ofNat n])) → Below B W w' → wpList Tryz.prog ops Q rest (a.put o.dst v') w') :
    wpList Tryz.prog ops Q (o :: rest) a (W.alloc (.cells #[.int .u8 c] 5)) := by
  subst hc
  obtain ⟨i0, hi, hz0, hz1, hz2⟩ := info_parts Tryz.info5
  refine wpList_append_own _ hgd s x 51 ho B 5 i0 (.int .u8 0) 1 1 Tryz.underlying51 hi hz0 hz1 hz2 rfl (by decide) v k (bcells l) hs (hown.alloc _) ⟨W.heap.size, 0, none⟩ 1 1 [.int .u8 (n : Int)] hx rfl ?_ ?_ ?_ ?_ ?_ ?_
  · intro j u hj
    match j, hj with
    | 0, hj => simp at hj; subst hj; simp [Addr.add]
  · intro u hu; simp at hu; subst hu; rfl
  · unfold maxLen; omega
  · omega
  · simp; omega
  · intro v' w' h1 h2 _
    rw [bcells_snoc l n hn] at h1
    refine h v' w' h1 ?_
    refine (((Below.refl B W).alloc hB _).grown h2 (by simp; omega) ?_)
    intro g hg
    exact (hown.lt g hg).1

/-- A pass that lowers the measure is a pass. -/
theorem jump_less {l : Nat} {J : Act → World → Prop} {R : Act → World → Prop} {Q : Exit → Act → World → Prop} (e : Exit) (a : Act) (w : World)
    (h : Exit.jump l (fun a' w' => J a' w' ∧ R a' w') Q e a w) : Exit.jump l J Q e a w := by
  cases e <;> first | exact h | exact ⟨h.1, h.2.1⟩
end Go.Proofs.YtjkpopdjmmgbbabGreat.W

namespace Go.Proofs.YtjkpopdjmmgbbabGreat.W
open Go.RowKit

/-- The number of a list of bytes, the highest first. -/
def gt (l : List UInt8) : Nat := l.foldl (fun n c => n * 256 + c.toNat) 0
theorem gt_snoc (l : List UInt8) (c : UInt8) : gt (l ++ [c]) = gt l * 256 + c.toNat := by simp [gt]
theorem gt_from (l : List UInt8) : ∀ a : Nat, l.foldl (fun n c => n * 256 + c.toNat) a = a * 256 ^ l.length + gt l := by
  induction l with
  | nil => intro a; simp [gt]
  | cons c l ih =>
    intro a
    have e : gt (c :: l) = c.toNat * 256 ^ l.length + gt l := by
      have := ih (0 * 256 + c.toNat)
      simp only [gt, List.foldl_cons] at *
      rw [this]; simp
    rw [List.foldl_cons, ih, e, List.length_cons, Nat.pow_succ, Nat.add_mul]
    rw [Nat.mul_assoc, Nat.mul_comm 256 (256 ^ l.length), Nat.add_assoc]
theorem gt_cons (c : UInt8) (l : List UInt8) : gt (c :: l) = c.toNat * 256 ^ l.length + gt l := by
  have := gt_from l (0 * 256 + c.toNat)
  simp only [gt, List.foldl_cons] at *
  rw [this]; simp
theorem gt_lt (l : List UInt8) : gt l < 256 ^ l.length := by
  induction l with
  | nil => simp [gt]
  | cons c l ih =>
    rw [gt_cons, List.length_cons, Nat.pow_succ]
    have h := c.toNat_lt
    have h2 : c.toNat * 256 ^ l.length ≤ 255 * 256 ^ l.length := Nat.mul_le_mul_right _ (by omega)
    omega

theorem take_snoc (s : ByteArray) (k : Nat) (h : k < s.size) : s.data.toList.take (k + 1) = s.data.toList.take k ++ [s[k]] := by
  rw [List.take_succ_eq_append_getElem (by simpa using h)]; rfl

theorem gt_room (s : ByteArray) (k : Nat) (h : k < s.size) (hm : s.size ≤ 8) : gt (s.data.toList.take k) < 72057594037927936 ∧ gt (s.data.toList.take (k + 1)) = gt (s.data.toList.take k) * 256 + s[k].toNat := by
  have h1 := gt_lt (s.data.toList.take k)
  have h2 : (s.data.toList.take k).length ≤ 7 := by
    have := List.length_take_le k s.data.toList
    omega
  have h3 : 256 ^ (s.data.toList.take k).length ≤ 256 ^ 7 := Nat.pow_le_pow_right (by omega) h2
  refine ⟨by omega, ?_⟩
  rw [take_snoc s k h, gt_snoc]

theorem get_step (s : ByteArray) (k : Nat) (h : k < s.size) (hm : s.size ≤ 8) :
    bits BinOp.or IntKind.u64 (IntKind.u64.wrap ((gt (s.data.toList.take k) : Int) * 256)) (IntKind.u64.wrap (s[k].toNat : Int)) = ((gt (s.data.toList.take (k + 1)) : Nat) : Int) := by
  obtain ⟨h1, h2⟩ := gt_room s k h hm
  have h3 := s[k].toNat_lt
  rw [h2]
  generalize gt (s.data.toList.take k) = g at *
  generalize s[k].toNat = c at *
  rw [IntWalk.u64_in _ ⟨by omega, by omega⟩, IntWalk.u64_in _ ⟨by omega, by omega⟩]
  have := u64_or_nat (g * 256) c (by omega) (by omega)
  rw [nat_join 8 (g * 256) c (by omega) (by omega)] at this
  simpa using this

theorem get_short (s : ByteArray) (hs : s.size = 0) (w : World) : Calls Tryz.prog 73 #[.string s] w fun e w' => e = .returned (.tuple #[.int .u64 0, .int .i64 3]) ∧ w = w' := by
  go_enter Tryz.func73, Tryz.ntmps73
  go_wp2
  go_ret2
  exact ⟨rfl, rfl⟩

theorem get_long (s : ByteArray) (hs : 8 < s.size) (hm : s.size ≤ 100) (w : World) : Calls Tryz.prog 73 #[.string s] w fun e w' => e = .returned (.tuple #[.int .u64 0, .int .i64 5]) ∧ w = w' := by
  go_enter Tryz.func73, Tryz.ntmps73
  go_wp2
  go_ret2
  exact ⟨rfl, rfl⟩

theorem get_ok (s : ByteArray) (hs : 1 ≤ s.size) (hm : s.size ≤ 8) (w : World) : Calls Tryz.prog 73 #[.string s] w fun e w' => e = .returned (.tuple #[.int .u64 (gt s.data.toList), .int .i64 0]) ∧ w = w' := by
  go_enter Tryz.func73, Tryz.ntmps73
  go_wp2
  go_loop [4, 14] (fun n i => ∃ k : Nat, k ≤ s.size ∧ i = .int .i64 k ∧ n = .int .u64 (gt (s.data.toList.take k))) (fun _ i => s.size - (intOf i).toNat)
  case atStart => exact ⟨0, Nat.zero_le _, rfl, rfl⟩
  case round =>
    obtain ⟨k, hk, rfl, rfl⟩ := hrel
    by_cases hlt : k < s.size
    · have HS := Lib.hid (get_step s k hlt hm)
      go_wp2
      go_round
      case rel => exact ⟨k + 1, by omega, by go_num, by rw [← HS.out]⟩
      case measure => simp [intOf]; omega
    · go_wp2
      go_ret2
      have e : k = s.size := by omega
      subst e
      refine ⟨?_, rfl⟩
      rw [List.take_of_length_le (by simp)]
      rfl

end Go.Proofs.YtjkpopdjmmgbbabGreat.W
