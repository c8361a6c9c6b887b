/- YtdojepkmjifoeaaI; DERIVED: THE SHELF's CONTRACTS AT THIS DUMP, IN PLAIN WORDS (tools/lay-plain.mjs out of 'YtdojepkmjifoeaaShelf.lean', which tools/lay-shelf.mjs wrote): THE SAME DECLARATIONS UNDER THE SAME NAMES: 'import', 'namespace', 'open', 'def', 'theorem' AND NOTHING ELSE: no command of the shelf's: FOR A HAND-IN. Each laying: the table of numbers ('.._ren') and one theorem, a field a fact of the dump's own or the kernel's comparison; each contract: ONE APPLICATION.; YtdojepkmjifoeaaR -/
import Derived.Test.YtdojepkmjifoeaaJ01
import Derived.Shelf.LaysM
import Derived.Shelf.Strconv.Clone
import Derived.Shelf.Strings.Prefix
import Derived.Test.YtdojepkmjifoeaaProg
import Derived.Lib.Strings
import Derived.Test.YtdojepkmjifoeaaJ04
set_option linter.unusedVariables false
set_option linter.unusedSimpArgs false
namespace Go.Proofs.Ytdojepkmjifoeaa
open Go.RowKit

/-- 'string([]byte{c})' of a slice just laid. -/
theorem run_one_byte (W : World) (c : Int) (n : Nat) (hc : c = (n : Int)) (hn : n < 256) :
    (convert 94 9 (.slice (some ⟨W.heap.size, 0, none⟩) 1 1)).run Try.prog (W.alloc (.cells #[.int .u8 c] 5)) = .ok (.string (str [UInt8.ofNat n])) (W.alloc (.cells #[.int .u8 c] 5)) := by
  subst hc
  refine run_convert_bytes_back (P := Try.prog) (W.alloc (.cells #[.int .u8 (n : Int)] 5)) 94 9 5 ⟨W.heap.size, 0, none⟩ 1 [UInt8.ofNat n] Try.underlying94 Try.underlying5 Try.underlying9 ?_
  intro j hj
  match j, hj with
  | 0, _ => simp [Addr.add, Nat.mod_eq_of_lt hn]

theorem ofNat_mod (d : Nat) : UInt8.ofNat (d % 256) = UInt8.ofNat d := by
  rw [← UInt8.toNat_inj]; simp
theorem str_append (a b : List UInt8) : str a ++ str b = str (a ++ b) := by
  apply ByteArray.ext
  simp [str]
theorem size_str (a : List UInt8) : (str a).size = a.length := by simp [str, ByteArray.size]
theorem run_str_add (a b : List UInt8) (h : a.length + b.length ≤ 1000000000) (W : World) : (Op.stringOp .add (str a) (str b)).run Try.prog W = .ok (.string (str (a ++ b))) W := by
  rw [run_string_add_sum W (str a) (str b) (by rw [size_str, size_str]; omega), str_append]

set_option maxRecDepth 1000000 in
theorem rput_any (n : Nat) (size : Int) (hn : n ≤ 18446744073709551615) (w : World) :
    Calls Try.prog 48 #[.int .u64 n, .int .i64 size] w fun e w' => e = .returned (.string (str (be n (clip size)))) ∧ Below w.heap.size w w' := by
  have HN := Lib.hid hn
  clear hn
  go_enter Try.func48, Try.ntmps48
  go_wp2
  go_loopw [0, 5, 6] (fun m t i wr => ∃ k : Nat, k ≤ clip size ∧ i = .int .i64 k ∧ m = .int .u64 ((n / 256 ^ k : Nat) : Int) ∧ t = .string (str (be n k)) ∧ Below w.heap.size w wr) (fun _ _ i _ => 8 - (intOf i).toNat)
  case atStart => exact ⟨0, Nat.zero_le _, rfl, by simp, rfl, Below.refl _ _⟩
  case round =>
    obtain ⟨k, hk, rfl, rfl, rfl, hb⟩ := hrel
    by_cases h1 : (k : Int) < size
    · by_cases h2 : k < 8
      · obtain ⟨d, hd⟩ : ∃ d, d = n / 256 ^ k := ⟨_, rfl⟩
        rw [← hd]
        have hd2 : d ≤ 18446744073709551615 := by
          rw [hd]; exact Nat.le_trans (Nat.div_le_self _ _) HN.out
        have hcv := run_one_byte wr ((d : Int) % 256) (d % 256) (by simp) (Nat.mod_lt _ (by omega))
        have hadd := run_str_add [UInt8.ofNat (d % 256)] (be n k) (by rw [be_length]; simp; omega)
        have hnext : UInt8.ofNat (d % 256) :: be n k = be n (k + 1) := by
          rw [be, ← hd]
          congr 1
          exact (ofNat_mod d)
        have hquo : (d : Int) / 256 = ((n / 256 ^ (k + 1) : Nat) : Int) := by
          rw [Nat.pow_succ, ← Nat.div_div_eq_div_mul, ← hd]; simp
        have hbB := hb.size
        have HD := Lib.hid hd
        have HX := Lib.hid hnext
        have HQ := Lib.hid hquo
        clear hd hnext hquo
        go_wp2
        go_roundw
        case rel => exact ⟨k + 1, by unfold clip; omega, by go_num, by rw [← HQ.out], by rw [← HX.out], hb.alloc hbB _⟩
        case measure => simp [intOf]; omega
      · go_wp2
        go_ret
        refine ⟨?_, hb⟩
        have e : k = clip size := by unfold clip at *; omega
        rw [← e]; rfl
    · go_wp2
      go_ret
      refine ⟨?_, hb⟩
      have e : k = clip size := by unfold clip at *; omega
      rw [← e]; rfl
end Go.Proofs.Ytdojepkmjifoeaa

namespace Go.Proofs
open Go.Shelf
def Try.laysM316_ren : Go.Shelf.Ren := ⟨fun | 316 => 54 | n => n, fun | 9 => 9 | 3 => 3 | 4 => 4 | 37 => 94 | 0 => 0 | 127 => 126 | 5 => 5 | n => n, fun | n => n⟩
theorem Try.laysM316 : Go.Proofs.LaysM.n316 Try.prog Try.laysM316_ren := {
  mixed := by kernel_rfl
  f316 := Try.func54.trans (congrArg some (by kernel_rfl))
  t0 := Try.underlying0
  a0 := Try.isAgg0
  z0 := Try.sizeOf0
  v0 := Try.zeroValue0
  t3 := Try.underlying3
  a3 := Try.isAgg3
  z3 := Try.sizeOf3
  v3 := Try.zeroValue3
  t4 := Try.underlying4
  a4 := Try.isAgg4
  z4 := Try.sizeOf4
  v4 := Try.zeroValue4
  t9 := Try.underlying9
  a9 := Try.isAgg9
  z9 := Try.sizeOf9
  v9 := Try.zeroValue9
  t37 := Try.underlying94
  a37 := Try.isAgg94
  z37 := Try.sizeOf94
  v37 := Try.zeroValue94
  t127 := Try.underlying126
  a127 := Try.isAgg126
  z127 := Try.sizeOf126
  v127 := Try.zeroValue126
  t5 := Try.underlying5
  a5 := Try.isAgg5
  z5 := Try.sizeOf5
  v5 := Try.zeroValue5
  i0 := by kernel_rfl
  i3 := by kernel_rfl
  i4 := by kernel_rfl
  i5 := by kernel_rfl
  i9 := by kernel_rfl
  i37 := by kernel_rfl
  i127 := by kernel_rfl }
open Go.RowKit in
/-- internal/stringslite.Clone (what strings.Clone calls): "Clone returns a fresh copy of s.": THE SAME BYTES. Of what was there nothing has turned (a new row is laid, and frozen, where s is not empty). (LAID: no walk: one application.) -/
theorem Try.stringslite_Clone (s : ByteArray) (w : World) (hlim : s.size ≤ 281474976710656) :
    Calls Try.prog 54 #[.string s] w fun e w' => e = .returned (.string s) ∧ Below w.heap.size w w' := Any.stringslite_Clone Try.laysM316 s w hlim
def Try.lays99_ren : Go.Shelf.Ren := ⟨fun | 99 => 68 | 206 => 83 | n => n, fun | 9 => 9 | 4 => 4 | 3 => 3 | n => n, fun | n => n⟩
theorem Try.lays99 : Go.Proofs.Lays.n99 Try.prog Try.lays99_ren := {
  mixed := by kernel_rfl
  f99 := Try.func68.trans (congrArg some (by kernel_rfl))
  f206 := Try.func83.trans (congrArg some (by kernel_rfl))
  t3 := Try.underlying3
  a3 := Try.isAgg3
  z3 := Try.sizeOf3
  v3 := Try.zeroValue3
  t4 := Try.underlying4
  a4 := Try.isAgg4
  z4 := Try.sizeOf4
  v4 := Try.zeroValue4
  t9 := Try.underlying9
  a9 := Try.isAgg9
  z9 := Try.sizeOf9
  v9 := Try.zeroValue9 }
open Go.RowKit Go.Lib in
/-- strings.HasPrefix: "HasPrefix reports whether the string s begins with prefix.": IT RETURNS 'Lib.hasPrefix s prefix'; the world is as it was. (LAID: no walk: one application.) -/
theorem Try.strings_HasPrefix (s p : ByteArray) (w : World) :
    Calls Try.prog 68 #[.string s, .string p] w fun e w' => e = .returned (.bool (Lib.hasPrefix s.data.toList p.data.toList)) ∧ w' = w := Any.strings_HasPrefix Try.lays99 s p w
end Go.Proofs

namespace Go.Proofs.Ytdojepkmjifoeaa
open Go.RowKit

/-- A text, and its sum behind it. -/
def markL (l : List UInt8) : List UInt8 := l ++ le4 (crcV l)
theorem str_data (p : ByteArray) : str p.data.toList = p := by
  apply ByteArray.ext; simp [str]
theorem data_str (l : List UInt8) : (str l).data.toList = l := by simp [str]

theorem run_add_str (p : ByteArray) (l : List UInt8) (h : p.size + l.length ≤ 9223372036854775807) (W : World) : (Op.stringOp .add p (str l)).run Try.prog W = .ok (.string (str (p.data.toList ++ l))) W := by
  rw [run_string_add_sum W p (str l) (by rw [size_str]; exact h), ← str_append, str_data]

theorem mark_any (p : ByteArray) (w : World) (hp : p.size ≤ 1000000000) :
    Calls Try.prog 43 #[.string p] w fun e w' => e = .returned (.string (str (markL p.data.toList))) ∧ Below w.heap.size w w' := by
  have k1 := fun w => tail_any p w hp
  have hadd := fun W => run_add_str p (le4 (crcV p.data.toList)) (by rw [le4_length]; omega) W
  rw [show p.data.toList ++ le4 (crcV p.data.toList) = markL p.data.toList from rfl] at hadd
  have K1 := Lib.hid k1
  clear k1
  go_enter Try.func43, Try.ntmps43
  go_wp2_with (first
    | (go_at_call 65; go_must (refine (K1.out _).mono ?_); rintro e w2 ⟨rfl, hb2⟩))
  go_ret
  exact ⟨rfl, hb2⟩

/-- 'string([]byte{a, b, c, d})' of a slice just laid. -/
theorem run_four_bytes (W : World) (V : Nat) (hV : V < 4294967296) :
    (convert 94 9 (.slice (some ⟨W.heap.size, 0, none⟩) 4 4)).run Try.prog (W.alloc (.cells #[.int .u8 ((V : Int) % 256), .int .u8 ((V : Int) / 256 % 256), .int .u8 ((V : Int) / 65536 % 256), .int .u8 ((V : Int) / 16777216)] 5)) = .ok (.string (str (le4 V))) (W.alloc (.cells #[.int .u8 ((V : Int) % 256), .int .u8 ((V : Int) / 256 % 256), .int .u8 ((V : Int) / 65536 % 256), .int .u8 ((V : Int) / 16777216)] 5)) := by
  refine run_convert_bytes_back (P := Try.prog) _ 94 9 5 ⟨W.heap.size, 0, none⟩ 4 (le4 V) Try.underlying94 Try.underlying5 Try.underlying9 ?_
  intro j hj
  match j, hj with
  | 0, _ => simp [Addr.add, le4]
  | 1, _ => simp [Addr.add, le4]
  | 2, _ => simp [Addr.add, le4]
  | 3, _ => simp [Addr.add, le4]; omega

theorem rmark_any (p : ByteArray) (w : World) (hp : p.size ≤ 1000000000) :
    Calls Try.prog 47 #[.string p] w fun e w' => e = .returned (.string (str (markL p.data.toList))) ∧ Below w.heap.size w w' := by
  have k1 := fun w => rcrc_one p w hp
  have hadd := fun W => run_add_str p (le4 (crcV p.data.toList)) (by rw [le4_length]; omega) W
  rw [show p.data.toList ++ le4 (crcV p.data.toList) = markL p.data.toList from rfl] at hadd
  have hv := crcV_lt p.data.toList
  generalize crcV p.data.toList = V at *
  have hcv := fun W => run_four_bytes W V hv
  have K1 := Lib.hid k1
  clear k1
  have hB := Below.refl w.heap.size w
  go_enter Try.func47, Try.ntmps47
  go_wp2_with (first
    | (go_at_call 67; go_must (refine (K1.out _).mono ?_); rintro e w2 ⟨rfl, rfl⟩))
  go_ret
  exact ⟨rfl, hB.alloc hB.size _⟩

theorem clone_any (p : ByteArray) (w : World) (hp : p.size ≤ 1000000000) : Calls Try.prog 34 #[.string p] w fun e w' => e = .returned (.string p) ∧ Below w.heap.size w w' := by
  have K1 := Lib.hid (fun w => Try.stringslite_Clone p w (by omega))
  go_enter Try.func34, Try.ntmps34
  go_wp2_with (first
    | (go_at_call 54; go_must (refine (K1.out _).mono ?_); rintro e w2 ⟨rfl, hb2⟩))
  go_ret
  exact ⟨rfl, hb2⟩

theorem check_short (p : ByteArray) (w : World) (hp : p.size < 4) :
    Calls Try.prog 70 #[.string p] w fun e w' => e = .returned (.tuple #[.string ⟨#[]⟩, .int .i64 3]) ∧ Below w.heap.size w w' := by
  go_enter Try.func70, Try.ntmps70
  go_wp2
  go_ret2
  exact ⟨rfl, Below.refl _ _⟩

theorem bdn (w : World) (n : Nat) : Below w.heap.size w (w.drewN n) := ⟨rfl, rfl, rfl, Nat.le_refl _, fun _ _ => rfl⟩

theorem check_ok (p : ByteArray) (w : World) (n : Nat) (hn : p.size = n + 4) (hp : p.size ≤ 1000000000) (hm : (p.extract n p.size).toList = le4 (crcV (p.extract 0 n).data.toList)) :
    Calls Try.prog 70 #[.string p] w fun e w' => e = .returned (.tuple #[.string (p.extract 0 n), .int .i64 0]) ∧ Below w.heap.size w w' := by
  have e1 : (p.size : Int) - 4 = (n : Int) := by omega
  have h4 : ¬ p.size < 4 := by omega
  have hle : n ≤ p.size := by omega
  have hsz : (p.extract 0 n).size ≤ 1000000000 := by rw [ByteArray.size_extract]; omega
  have k1 := fun w => tail_any (p.extract 0 n) w hsz
  have K2 := Lib.hid (fun w => clone_any (p.extract 0 n) w hsz)
  generalize le4 (crcV (p.extract 0 n).data.toList) = L at *
  have K1 := Lib.hid k1
  clear k1
  have hd1 : ((p.extract n p.size).toList == (str L).toList) = true := by
    rw [toList_str]; simp [hm]
  have hd2 : ((p.extract n p.size).toList != (str L).toList) = false := by
    rw [toList_str]; simp [hm]
  clear hn hsz hm
  go_enter Try.func70, Try.ntmps70
  go_wp2
  go_quiet (fail)
  go_wp2_with (first
    | (go_at_call 65; go_must (refine (K1.out _).mono ?_); rintro e w2 ⟨rfl, hb2⟩)
    | (go_at_call 34; go_must (refine (K2.out _).mono ?_); rintro e w3 ⟨rfl, hb3⟩))
  go_ret2
  exact ⟨rfl, ((bdn w _).trans hb2).trans (hb3.mono hb2.size)⟩

theorem check_bad (p : ByteArray) (w : World) (n : Nat) (hn : p.size = n + 4) (hp : p.size ≤ 1000000000) (hm : ¬ (p.extract n p.size).toList = le4 (crcV (p.extract 0 n).data.toList)) :
    Calls Try.prog 70 #[.string p] w fun e w' => e = .returned (.tuple #[.string ⟨#[]⟩, .int .i64 9]) ∧ Below w.heap.size w w' := by
  have e1 : (p.size : Int) - 4 = (n : Int) := by omega
  have h4 : ¬ p.size < 4 := by omega
  have hle : n ≤ p.size := by omega
  have hsz : (p.extract 0 n).size ≤ 1000000000 := by rw [ByteArray.size_extract]; omega
  have k1 := fun w => tail_any (p.extract 0 n) w hsz
  generalize le4 (crcV (p.extract 0 n).data.toList) = L at *
  have K1 := Lib.hid k1
  clear k1
  have hd1 : ((p.extract n p.size).toList == (str L).toList) = false := by
    rw [toList_str]; simp [hm]
  have hd2 : ((p.extract n p.size).toList != (str L).toList) = true := by
    rw [toList_str]; simp [hm]
  clear hn hsz hm
  go_enter Try.func70, Try.ntmps70
  go_wp2
  go_quiet (fail)
  go_wp2_with (first
    | (go_at_call 65; go_must (refine (K1.out _).mono ?_); rintro e w2 ⟨rfl, hb2⟩))
  go_ret2
  exact ⟨rfl, (bdn w _).trans hb2⟩

theorem check_mark (l : List UInt8) (w : World) (hl : l.length ≤ 100000000) :
    Calls Try.prog 70 #[.string (str (markL l))] w fun e w' => e = .returned (.tuple #[.string (str l), .int .i64 0]) ∧ Below w.heap.size w w' := by
  have hsz : (str (markL l)).size = l.length + 4 := by rw [size_str]; simp [markL, le4_length]
  have e0 : (str (markL l)).extract 0 l.length = str l := by
    apply ByteArray.ext
    apply Array.ext'
    simp [str, markL]
  have e1 : ((str (markL l)).extract l.length (str (markL l)).size).toList = le4 (crcV l) := by
    rw [Lib.extract_toList, data_str, hsz]
    simp [markL]
    rfl
  have h := check_ok (str (markL l)) w l.length hsz (by omega) (by rw [e1, e0, data_str])
  rw [e0] at h
  exact h
end Go.Proofs.Ytdojepkmjifoeaa
