import Derived.Test.YtlochpnifjmefaaD
/- Walk of the document's Put. -/
namespace Go.Proofs.Ytlochpnifjmefaa
open Go.RowKit

/-- 'string([]byte{c})' of a slice just laid. -/
theorem run_one_byte (W : World) (c : Int) (n : Nat) (hc : c = (n : Int)) (hn : n < 256) :
    (convert 69 9 (.slice (some ⟨W.heap.size, 0, none⟩) 1 1)).run Try.prog (W.alloc (.cells #[.int .u8 c] 5)) = .ok (.string (str [UInt8.ofNat n])) (W.alloc (.cells #[.int .u8 c] 5)) := by
  subst hc
  refine run_convert_bytes_back (P := Try.prog) (W.alloc (.cells #[.int .u8 (n : Int)] 5)) 69 9 5 ⟨W.heap.size, 0, none⟩ 1 [UInt8.ofNat n] Try.underlying69 Try.underlying5 Try.underlying9 ?_
  intro j hj
  match j, hj with
  | 0, _ => simp [Addr.add, Nat.mod_eq_of_lt hn]

theorem ofNat_mod (d : Nat) : UInt8.ofNat (d % 256) = UInt8.ofNat d := by
  rw [← UInt8.toNat_inj]; simp
theorem str_append (a b : List UInt8) : str a ++ str b = str (a ++ b) := by
  apply ByteArray.ext
  simp [str]
theorem size_str (a : List UInt8) : (str a).size = a.length := by simp [str, ByteArray.size]
theorem run_str_add (a b : List UInt8) (h : a.length + b.length ≤ 1000000000) (W : World) : (Op.stringOp .add (str a) (str b)).run Try.prog W = .ok (.string (str (a ++ b))) W := by
  rw [run_string_add_sum W (str a) (str b) (by rw [size_str, size_str]; omega), str_append]

set_option maxRecDepth 1000000 in
theorem rput_any (n : Nat) (size : Int) (hn : n ≤ 18446744073709551615) (w : World) :
    Calls Try.prog 45 #[.int .u64 n, .int .i64 size] w fun e w' => e = .returned (.string (str (be n (clip size)))) ∧ Below w.heap.size w w' := by
  have HN := Lib.hid hn
  clear hn
  go_enter Try.func45, Try.ntmps45
  go_wp2
  go_loopw [0, 5, 6] (fun m t i wr => ∃ k : Nat, k ≤ clip size ∧ i = .int .i64 k ∧ m = .int .u64 ((n / 256 ^ k : Nat) : Int) ∧ t = .string (str (be n k)) ∧ Below w.heap.size w wr) (fun _ _ i _ => 8 - (intOf i).toNat)
  case atStart => exact ⟨0, Nat.zero_le _, rfl, by simp, rfl, Below.refl _ _⟩
  case round =>
    obtain ⟨k, hk, rfl, rfl, rfl, hb⟩ := hrel
    by_cases h1 : (k : Int) < size
    · by_cases h2 : k < 8
      · obtain ⟨d, hd⟩ : ∃ d, d = n / 256 ^ k := ⟨_, rfl⟩
        rw [← hd]
        have hd2 : d ≤ 18446744073709551615 := by
          rw [hd]; exact Nat.le_trans (Nat.div_le_self _ _) HN.out
        have hcv := run_one_byte wr ((d : Int) % 256) (d % 256) (by simp) (Nat.mod_lt _ (by omega))
        have hadd := run_str_add [UInt8.ofNat (d % 256)] (be n k) (by rw [be_length]; simp; omega)
        have hnext : UInt8.ofNat (d % 256) :: be n k = be n (k + 1) := by
          rw [be, ← hd]
          congr 1
          exact (ofNat_mod d)
        have hquo : (d : Int) / 256 = ((n / 256 ^ (k + 1) : Nat) : Int) := by
          rw [Nat.pow_succ, ← Nat.div_div_eq_div_mul, ← hd]; simp
        have hbB := hb.size
        have HD := Lib.hid hd
        have HX := Lib.hid hnext
        have HQ := Lib.hid hquo
        clear hd hnext hquo
        go_wp2
        go_roundw
        case rel => exact ⟨k + 1, by unfold clip; omega, by go_num, by rw [← HQ.out], by rw [← HX.out], hb.alloc hbB _⟩
        case measure => simp [intOf]; omega
      · go_wp2
        go_ret
        refine ⟨?_, hb⟩
        have e : k = clip size := by unfold clip at *; omega
        rw [← e]; rfl
    · go_wp2
      go_ret
      refine ⟨?_, hb⟩
      have e : k = clip size := by unfold clip at *; omega
      rw [← e]; rfl
end Go.Proofs.Ytlochpnifjmefaa
