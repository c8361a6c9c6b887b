/- Walk of word.Get. -/
import Derived.Test.YtfakkbjnapelfaaWVB
import Derived.Laws.BitsAllLaws
namespace Go.Proofs.Ytfakkbjnapelfaa.W
open Go.RowKit

/-- The number of a list of bytes, the highest first. -/
def gt (l : List UInt8) : Nat := l.foldl (fun n c => n * 256 + c.toNat) 0
theorem gt_snoc (l : List UInt8) (c : UInt8) : gt (l ++ [c]) = gt l * 256 + c.toNat := by simp [gt]
theorem gt_from (l : List UInt8) : ∀ a : Nat, l.foldl (fun n c => n * 256 + c.toNat) a = a * 256 ^ l.length + gt l := by
  induction l with
  | nil => intro a; simp [gt]
  | cons c l ih =>
    intro a
    have e : gt (c :: l) = c.toNat * 256 ^ l.length + gt l := by
      have := ih (0 * 256 + c.toNat)
      simp only [gt, List.foldl_cons] at *
      rw [this]; simp
    rw [List.foldl_cons, ih, e, List.length_cons, Nat.pow_succ, Nat.add_mul]
    rw [Nat.mul_assoc, Nat.mul_comm 256 (256 ^ l.length), Nat.add_assoc]
theorem gt_cons (c : UInt8) (l : List UInt8) : gt (c :: l) = c.toNat * 256 ^ l.length + gt l := by
  have := gt_from l (0 * 256 + c.toNat)
  simp only [gt, List.foldl_cons] at *
  rw [this]; simp
theorem gt_lt (l : List UInt8) : gt l < 256 ^ l.length := by
  induction l with
  | nil => simp [gt]
  | cons c l ih =>
    rw [gt_cons, List.length_cons, Nat.pow_succ]
    have h := c.toNat_lt
    have h2 : c.toNat * 256 ^ l.length ≤ 255 * 256 ^ l.length := Nat.mul_le_mul_right _ (by omega)
    omega

theorem take_snoc (s : ByteArray) (k : Nat) (h : k < s.size) : s.data.toList.take (k + 1) = s.data.toList.take k ++ [s[k]] := by
  rw [List.take_succ_eq_append_getElem (by simpa using h)]; rfl

theorem gt_room (s : ByteArray) (k : Nat) (h : k < s.size) (hm : s.size ≤ 8) : gt (s.data.toList.take k) < 72057594037927936 ∧ gt (s.data.toList.take (k + 1)) = gt (s.data.toList.take k) * 256 + s[k].toNat := by
  have h1 := gt_lt (s.data.toList.take k)
  have h2 : (s.data.toList.take k).length ≤ 7 := by
    have := List.length_take_le k s.data.toList
    omega
  have h3 : 256 ^ (s.data.toList.take k).length ≤ 256 ^ 7 := Nat.pow_le_pow_right (by omega) h2
  refine ⟨by omega, ?_⟩
  rw [take_snoc s k h, gt_snoc]

theorem get_step (s : ByteArray) (k : Nat) (h : k < s.size) (hm : s.size ≤ 8) :
    bits BinOp.or IntKind.u64 (IntKind.u64.wrap ((gt (s.data.toList.take k) : Int) * 256)) (IntKind.u64.wrap (s[k].toNat : Int)) = ((gt (s.data.toList.take (k + 1)) : Nat) : Int) := by
  obtain ⟨h1, h2⟩ := gt_room s k h hm
  have h3 := s[k].toNat_lt
  rw [h2]
  generalize gt (s.data.toList.take k) = g at *
  generalize s[k].toNat = c at *
  rw [IntWalk.u64_in _ ⟨by omega, by omega⟩, IntWalk.u64_in _ ⟨by omega, by omega⟩]
  have := u64_or_nat (g * 256) c (by omega) (by omega)
  rw [nat_join 8 (g * 256) c (by omega) (by omega)] at this
  simpa using this

theorem get_short (s : ByteArray) (hs : s.size = 0) (w : World) : Calls Try.prog 60 #[.string s] w fun e w' => e = .returned (.tuple #[.int .u64 0, .int .i64 3]) ∧ w = w' := by
  go_enter Try.func60, Try.ntmps60
  go_wp2
  go_ret2
  exact ⟨rfl, rfl⟩

theorem get_long (s : ByteArray) (hs : 8 < s.size) (hm : s.size ≤ 100) (w : World) : Calls Try.prog 60 #[.string s] w fun e w' => e = .returned (.tuple #[.int .u64 0, .int .i64 5]) ∧ w = w' := by
  go_enter Try.func60, Try.ntmps60
  go_wp2
  go_ret2
  exact ⟨rfl, rfl⟩

theorem get_ok (s : ByteArray) (hs : 1 ≤ s.size) (hm : s.size ≤ 8) (w : World) : Calls Try.prog 60 #[.string s] w fun e w' => e = .returned (.tuple #[.int .u64 (gt s.data.toList), .int .i64 0]) ∧ w = w' := by
  go_enter Try.func60, Try.ntmps60
  go_wp2
  go_loop [4, 14] (fun n i => ∃ k : Nat, k ≤ s.size ∧ i = .int .i64 k ∧ n = .int .u64 (gt (s.data.toList.take k))) (fun _ i => s.size - (intOf i).toNat)
  case atStart => exact ⟨0, Nat.zero_le _, rfl, rfl⟩
  case round =>
    obtain ⟨k, hk, rfl, rfl⟩ := hrel
    by_cases hlt : k < s.size
    · have HS := Lib.hid (get_step s k hlt hm)
      go_wp2
      go_round
      case rel => exact ⟨k + 1, by omega, by go_num, by rw [← HS.out]⟩
      case measure => simp [intOf]; omega
    · go_wp2
      go_ret2
      have e : k = s.size := by omega
      subst e
      refine ⟨?_, rfl⟩
      rw [List.take_of_length_le (by simp)]
      rfl

end Go.Proofs.Ytfakkbjnapelfaa.W
