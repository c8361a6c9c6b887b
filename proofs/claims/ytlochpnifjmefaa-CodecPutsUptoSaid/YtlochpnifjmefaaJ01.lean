/- YtlochpnifjmefaaD; YtlochpnifjmefaaI -/
import Derived.Test.YtlochpnifjmefaaJ00
set_option linter.unusedVariables false
set_option linter.unusedSimpArgs false
namespace Go.Proofs.Ytlochpnifjmefaa
open Go.RowKit

/-- The last k bytes of a number, the highest first. -/
def be (n : Nat) : Nat → List UInt8
  | 0 => []
  | k + 1 => UInt8.ofNat (n / 256 ^ k) :: be n k

theorem be_length (n k : Nat) : (be n k).length = k := by induction k with
  | zero => rfl
  | succ k ih => simp [be, ih]

theorem byte_at (n k : Nat) : (n : Int) / 2 ^ (8 * k) % 256 = ((UInt8.ofNat (n / 256 ^ k)).toNat : Int) := by
  have e : (2 : Int) ^ (8 * k) = ((256 ^ k : Nat) : Int) := by
    rw [Int.pow_mul]; simp
  rw [e]
  simp

theorem put_step {wr : World} {B g s k t n : Nat} (hk : k < s) (ht : t = s - 1 - k)
    (h : wr.ownsRow B 5 1 (.slice (some ⟨g, 0, none⟩) s s) s (bcells (List.replicate (s - k) 0 ++ be n k))) :
    (wr.setCell ⟨g, t, none⟩ (.int .u8 ((n : Int) / 2 ^ (8 * k) % 256))).ownsRow B 5 1 (.slice (some ⟨g, 0, none⟩) s s) s (bcells (List.replicate (s - (k + 1)) 0 ++ be n (k + 1))) := by
  have h1 := (h.stored t (.int .u8 ((n : Int) / 2 ^ (8 * k) % 256))).1
  have e : (bcells (List.replicate (s - k) 0 ++ be n k)).set t (.int .u8 ((n : Int) / 2 ^ (8 * k) % 256)) = bcells (List.replicate (s - (k + 1)) 0 ++ be n (k + 1)) := by
    rw [byte_at]
    have e2 : s - k = (s - (k + 1)) + 1 := by omega
    have e3 : t = (s - (k + 1)) := by omega
    rw [e2, e3, List.replicate_succ', bcells, bcells, be]
    simp [List.map_append]
  rw [e] at h1
  exact h1

/-- What word.Put makes of a size. -/
def clip (size : Int) : Nat := (min (max size 0) 8).toNat

set_option maxRecDepth 1000000 in
theorem put_any (n : Nat) (size : Int) (hn : n ≤ 18446744073709551615) (w : World) :
    Calls Try.prog 42 #[.int .u64 n, .int .i64 size] w fun e w' => e = .returned (.string (str (be n (clip size)))) ∧ Below w.heap.size w w' := by
  have HN := Lib.hid hn
  clear hn
  obtain ⟨s, hs⟩ : ∃ s, s = clip size := ⟨_, rfl⟩
  have hs8 : s ≤ 8 := by rw [hs]; unfold clip; omega
  have hm : min (max size 0) 8 = (s : Int) := by rw [hs]; unfold clip; omega
  have HS := Lib.hid hs
  clear hs
  obtain ⟨i0, hi, hz0, hz1, hz2⟩ := info_parts Try.info5
  go_enter Try.func42, Try.ntmps42
  go_upto_region 1 with (fail)
  go_cut [1] from 7 (fun s1 w1 => s1 = .int .i64 (s : Int) ∧ w = w1)
  case first =>
    go_wp2_with fail
    all_goals (go_meet; case rel => exact ⟨by congr 1; omega, rfl⟩)
  case rest =>
    obtain ⟨rfl, rfl⟩ := hcut
    clear hm
    go_wp2_with (first | (at_make; refine wpList_make_full w rfl (.tmp 10) (.tmp 10) 69 rfl w.heap.size 5 i0 (.int .u8 0) 1 Try.underlying69 hi hz0 hz1 .i64 .i64 s s s rfl rfl rfl rfl (by rw [hz2]; omega) (by unfold maxLen; omega) (Nat.le_refl _) ?_; intro w1 hown hgr))
    have hb0 : Below w.heap.size w w1 := (Below.refl _ _).grown hgr (Nat.le_refl _) (by simp)
    have hown0 : w1.ownsRow w.heap.size 5 1 (Value.slice (some ⟨w.heap.size, 0, none⟩) s s) s (bcells (List.replicate (s - 0) 0 ++ be n 0)) := by
      have e : (madeCells (Value.int IntKind.u8 0).cells (s * 1)).toList = bcells (List.replicate (s - 0) 0 ++ be n 0) := by
        rw [Nat.mul_one]
        simp [bcells, be, Value.cells, toList_madeCells_one]
      rw [e] at hown
      exact hown
    have HB0 := Lib.hid hb0
    have HO0 := Lib.hid hown0
    clear hb0 hown0 hown hgr hi hz0 hz1 hz2
    go_loopw [13] (fun i wr => ∃ k : Nat, k ≤ s ∧ i = .int .i64 k ∧ wr.ownsRow w.heap.size 5 1 (Value.slice (some ⟨w.heap.size, 0, none⟩) s s) s (bcells (List.replicate (s - k) 0 ++ be n k)) ∧ Below w.heap.size w wr) (fun i _ => s - (intOf i).toNat)
    case atStart => exact ⟨0, Nat.zero_le _, rfl, HO0.out, HB0.out⟩
    case round =>
      obtain ⟨k, hk, rfl, hown, hb⟩ := hrel
      by_cases hlt : k < s
      · obtain ⟨t, ht⟩ : ∃ t, t = s - 1 - k := ⟨_, rfl⟩
        have e1 : (s : Int) - 1 - k = (t : Int) := by omega
        have hts : t < s := by omega
        have hz := hown.frozenAt t
        have hc : wr.cell? ⟨w.heap.size, t, none⟩ = some (.int .u8 0) := by
          rw [hown.cellAt t (by omega)]
          rw [bcells, List.getElem?_map, List.getElem?_append_left (by simp; omega), List.getElem?_replicate, if_pos (by omega)]
          rfl
        have hst := put_step hlt ht hown
        have hsb := hb.setCell (p := ⟨w.heap.size, t, none⟩) (Nat.le_refl _) (.int .u8 ((n : Int) / 2 ^ (8 * k) % 256))
        have HST := Lib.hid hst
        have HSB := Lib.hid hsb
        clear hst hsb ht hk hown hb
        go_wp2
        go_roundw
        case rel => exact ⟨k + 1, by omega, by go_num, HST.out, HSB.out⟩
        case measure => simp [intOf]; omega
      · have hcv := own_string hown
        have HO := Lib.hid hown
        clear hown
        go_wp2
        go_ret
        refine ⟨?_, hb⟩
        have e : k = s := by omega
        subst e
        rw [← HS.out]
        simp
end Go.Proofs.Ytlochpnifjmefaa

namespace Go.Proofs.Ytlochpnifjmefaa
open Go.RowKit

/-- 'string([]byte{c})' of a slice just laid. -/
theorem run_one_byte (W : World) (c : Int) (n : Nat) (hc : c = (n : Int)) (hn : n < 256) :
    (convert 69 9 (.slice (some ⟨W.heap.size, 0, none⟩) 1 1)).run Try.prog (W.alloc (.cells #[.int .u8 c] 5)) = .ok (.string (str [UInt8.ofNat n])) (W.alloc (.cells #[.int .u8 c] 5)) := by
  subst hc
  refine run_convert_bytes_back (P := Try.prog) (W.alloc (.cells #[.int .u8 (n : Int)] 5)) 69 9 5 ⟨W.heap.size, 0, none⟩ 1 [UInt8.ofNat n] Try.underlying69 Try.underlying5 Try.underlying9 ?_
  intro j hj
  match j, hj with
  | 0, _ => simp [Addr.add, Nat.mod_eq_of_lt hn]

theorem ofNat_mod (d : Nat) : UInt8.ofNat (d % 256) = UInt8.ofNat d := by
  rw [← UInt8.toNat_inj]; simp
theorem str_append (a b : List UInt8) : str a ++ str b = str (a ++ b) := by
  apply ByteArray.ext
  simp [str]
theorem size_str (a : List UInt8) : (str a).size = a.length := by simp [str, ByteArray.size]
theorem run_str_add (a b : List UInt8) (h : a.length + b.length ≤ 1000000000) (W : World) : (Op.stringOp .add (str a) (str b)).run Try.prog W = .ok (.string (str (a ++ b))) W := by
  rw [run_string_add_sum W (str a) (str b) (by rw [size_str, size_str]; omega), str_append]

set_option maxRecDepth 1000000 in
theorem rput_any (n : Nat) (size : Int) (hn : n ≤ 18446744073709551615) (w : World) :
    Calls Try.prog 45 #[.int .u64 n, .int .i64 size] w fun e w' => e = .returned (.string (str (be n (clip size)))) ∧ Below w.heap.size w w' := by
  have HN := Lib.hid hn
  clear hn
  go_enter Try.func45, Try.ntmps45
  go_wp2
  go_loopw [0, 5, 6] (fun m t i wr => ∃ k : Nat, k ≤ clip size ∧ i = .int .i64 k ∧ m = .int .u64 ((n / 256 ^ k : Nat) : Int) ∧ t = .string (str (be n k)) ∧ Below w.heap.size w wr) (fun _ _ i _ => 8 - (intOf i).toNat)
  case atStart => exact ⟨0, Nat.zero_le _, rfl, by simp, rfl, Below.refl _ _⟩
  case round =>
    obtain ⟨k, hk, rfl, rfl, rfl, hb⟩ := hrel
    by_cases h1 : (k : Int) < size
    · by_cases h2 : k < 8
      · obtain ⟨d, hd⟩ : ∃ d, d = n / 256 ^ k := ⟨_, rfl⟩
        rw [← hd]
        have hd2 : d ≤ 18446744073709551615 := by
          rw [hd]; exact Nat.le_trans (Nat.div_le_self _ _) HN.out
        have hcv := run_one_byte wr ((d : Int) % 256) (d % 256) (by simp) (Nat.mod_lt _ (by omega))
        have hadd := run_str_add [UInt8.ofNat (d % 256)] (be n k) (by rw [be_length]; simp; omega)
        have hnext : UInt8.ofNat (d % 256) :: be n k = be n (k + 1) := by
          rw [be, ← hd]
          congr 1
          exact (ofNat_mod d)
        have hquo : (d : Int) / 256 = ((n / 256 ^ (k + 1) : Nat) : Int) := by
          rw [Nat.pow_succ, ← Nat.div_div_eq_div_mul, ← hd]; simp
        have hbB := hb.size
        have HD := Lib.hid hd
        have HX := Lib.hid hnext
        have HQ := Lib.hid hquo
        clear hd hnext hquo
        go_wp2
        go_roundw
        case rel => exact ⟨k + 1, by unfold clip; omega, by go_num, by rw [← HQ.out], by rw [← HX.out], hb.alloc hbB _⟩
        case measure => simp [intOf]; omega
      · go_wp2
        go_ret
        refine ⟨?_, hb⟩
        have e : k = clip size := by unfold clip at *; omega
        rw [← e]; rfl
    · go_wp2
      go_ret
      refine ⟨?_, hb⟩
      have e : k = clip size := by unfold clip at *; omega
      rw [← e]; rfl
end Go.Proofs.Ytlochpnifjmefaa
