/- Walks of awake, the document's Digits. -/
import Derived.Test.YtmflpjgedoopoaaDoorVC
import Derived.Test.YtmflpjgedoopoaaDoorVD
import Derived.Test.YtmflpjgedoopoaaDoorVE
import Derived.Lib.Strings
namespace Go.Proofs.YtmflpjgedoopoaaDoor.W
open Go.RowKit

theorem toList_str (l : List UInt8) : (str l).toList = l := ByteArray.toList_mk l
theorem awake_any (w : World) : Calls Tryd.prog 68 #[] w fun e w' => e = .returned (.bool true) ∧ Below w.heap.size w w' := by
  have h1 : (str (sh 300)).toList = [172, 2] := by
    rw [toList_str, sh_more 300 (by omega), sh_last _ (by omega)]
    rfl
  have h2 : ((str (be 258 (clip 2))).toList == [1, 2]) = true := by
    rw [toList_str]
    rfl
  go_enter Tryd.func68, Tryd.ntmps68
  go_wp2_with (first
    | (go_at_call 80; go_must (refine (short_any 300 (by omega) _).mono ?_); rintro e w1 ⟨rfl, hb1⟩)
    | (go_at_call 59; go_must (refine (put_any 258 2 (by omega) _).mono ?_); rintro e w2 ⟨rfl, hb2⟩))
  go_ret
  exact ⟨rfl, hb1.trans (hb2.mono hb1.size)⟩

/-- 'string([]byte{c})' of a slice just laid. -/
theorem run_one_byte (W : World) (c : Int) (n : Nat) (hc : c = (n : Int)) (hn : n < 256) :
    (convert 56 9 (.slice (some ⟨W.heap.size, 0, none⟩) 1 1)).run Tryd.prog (W.alloc (.cells #[.int .u8 c] 5)) = .ok (.string (str [UInt8.ofNat n])) (W.alloc (.cells #[.int .u8 c] 5)) := by
  subst hc
  refine run_convert_bytes_back (P := Tryd.prog) (W.alloc (.cells #[.int .u8 (n : Int)] 5)) 56 9 5 ⟨W.heap.size, 0, none⟩ 1 [UInt8.ofNat n] Tryd.underlying56 Tryd.underlying5 Tryd.underlying9 ?_
  intro j hj
  match j, hj with
  | 0, _ => simp [Addr.add, Nat.mod_eq_of_lt hn]
theorem str_append (a b : List UInt8) : str a ++ str b = str (a ++ b) := by
  apply ByteArray.ext
  simp [str]
theorem size_str (a : List UInt8) : (str a).size = a.length := by simp [str, ByteArray.size]
theorem run_str_add (a b : List UInt8) (h : a.length + b.length ≤ 1000000000) (W : World) : (Op.stringOp .add (str a) (str b)).run Tryd.prog W = .ok (.string (str (a ++ b))) W := by
  rw [run_string_add_sum W (str a) (str b) (by rw [size_str, size_str]; omega), str_append]

set_option maxRecDepth 1000000 in
theorem rdigits_any (u : Nat) (hu : u ≤ 18446744073709551615) (w : World) :
    Calls Tryd.prog 60 #[.int .u64 u] w fun e w' => e = .returned (.string (str (Lib.decDigits u))) ∧ Below w.heap.size w w' := by
  have hul : (Lib.decDigits u).length ≤ 20 := by
    by_cases h0 : u = 0
    · subst h0; rw [dec_small 0 (by omega)]; simp
    · rw [Lib.decDigits_length]
      have := Lib.numDigits_eq u (by omega) (by omega)
      split at this <;> omega
  have HU := Lib.hid hu
  have HUL := Lib.hid hul
  clear hu hul
  go_enter Tryd.func60, Tryd.ntmps60
  go_wp2
  go_loopw [0, 3] (fun m t wr => ∃ (n : Nat) (l : List UInt8), n ≤ u ∧ m = .int .u64 n ∧ t = .string (str l) ∧ Lib.decDigits n ++ l = Lib.decDigits u ∧ Below w.heap.size w wr) (fun m _ _ => (intOf m).toNat)
  case atStart => exact ⟨u, [], Nat.le_refl _, rfl, rfl, by simp, Below.refl _ _⟩
  case round =>
    obtain ⟨n, l, hn, rfl, rfl, hl, hb⟩ := hrel
    have hll : l.length ≤ 20 := by have h1 := congrArg List.length hl; have := HUL.out; simp at h1; omega
    have hcv := run_one_byte wr (48 + (n : Int) % 10) (48 + n % 10) (by simp) (by omega)
    have hadd := run_str_add [UInt8.ofNat (48 + n % 10)] l (by simp; omega)
    obtain ⟨c, hc⟩ : ∃ c, c = UInt8.ofNat (48 + n % 10) := ⟨_, rfl⟩
    rw [← hc] at hcv hadd
    have HC := Lib.hid hc
    clear hc
    have hn64 : n ≤ 18446744073709551615 := by have := HU.out; omega
    have hbs := hb.size
    have HN := Lib.hid hn
    have HL := Lib.hid hl
    clear hn hl
    by_cases h10 : n < 10
    · have hq : ((n : Int) / 10 == 0) = true := by rw [beq_iff_eq]; omega
      go_wp2
      go_ret
      refine ⟨?_, hb.alloc hbs _⟩
      rw [← HL.out, dec_small n h10, HC.out, show 48 + n % 10 = 48 + n by omega]; rfl
    · have hq : ((n : Int) / 10 == 0) = false := by rw [beq_eq_false_iff_ne]; omega
      go_wp2
      go_roundw
      case rel =>
        refine ⟨n / 10, c :: l, by have := HN.out; omega, by simp, rfl, ?_, hb.alloc hbs _⟩
        rw [← HL.out, dec_big n h10, HC.out, List.append_assoc]; rfl
      case measure => simp [intOf]; omega
end Go.Proofs.YtmflpjgedoopoaaDoor.W
