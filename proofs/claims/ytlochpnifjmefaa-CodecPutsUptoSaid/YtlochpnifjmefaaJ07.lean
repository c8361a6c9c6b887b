/- DERIVED: THE SHELF's CONTRACTS AT THIS DUMP, IN PLAIN WORDS (tools/lay-plain.mjs out of 'YtlochpnifjmefaaShelf.lean', which tools/lay-shelf.mjs wrote): THE SAME DECLARATIONS UNDER THE SAME NAMES: 'import', 'namespace', 'open', 'def', 'theorem' AND NOTHING ELSE: no command of the shelf's: FOR A HAND-IN. Each laying: the table of numbers ('.._ren') and one theorem, a field a fact of the dump's own or the kernel's comparison; each contract: ONE APPLICATION.; YtlochpnifjmefaaR -/
import Derived.Shelf.LaysM
import Derived.Shelf.Strconv.Clone
import Derived.Shelf.Strings.Prefix
import Derived.Test.YtlochpnifjmefaaProg
import Derived.Lib.Strings
import Derived.Test.YtlochpnifjmefaaJ06
import Derived.Test.YtlochpnifjmefaaJ01
set_option linter.unusedVariables false
set_option linter.unusedSimpArgs false
namespace Go.Proofs
open Go.Shelf
def Try.laysM316_ren : Go.Shelf.Ren := ⟨fun | 316 => 55 | n => n, fun | 9 => 9 | 3 => 3 | 4 => 4 | 37 => 69 | 0 => 0 | 127 => 101 | 5 => 5 | n => n, fun | n => n⟩
theorem Try.laysM316 : Go.Proofs.LaysM.n316 Try.prog Try.laysM316_ren := {
  mixed := by kernel_rfl
  f316 := Try.func55.trans (congrArg some (by kernel_rfl))
  t0 := Try.underlying0
  a0 := Try.isAgg0
  z0 := Try.sizeOf0
  v0 := Try.zeroValue0
  t3 := Try.underlying3
  a3 := Try.isAgg3
  z3 := Try.sizeOf3
  v3 := Try.zeroValue3
  t4 := Try.underlying4
  a4 := Try.isAgg4
  z4 := Try.sizeOf4
  v4 := Try.zeroValue4
  t9 := Try.underlying9
  a9 := Try.isAgg9
  z9 := Try.sizeOf9
  v9 := Try.zeroValue9
  t37 := Try.underlying69
  a37 := Try.isAgg69
  z37 := Try.sizeOf69
  v37 := Try.zeroValue69
  t127 := Try.underlying101
  a127 := Try.isAgg101
  z127 := Try.sizeOf101
  v127 := Try.zeroValue101
  t5 := Try.underlying5
  a5 := Try.isAgg5
  z5 := Try.sizeOf5
  v5 := Try.zeroValue5
  i0 := by kernel_rfl
  i3 := by kernel_rfl
  i4 := by kernel_rfl
  i5 := by kernel_rfl
  i9 := by kernel_rfl
  i37 := by kernel_rfl
  i127 := by kernel_rfl }
open Go.RowKit in
/-- internal/stringslite.Clone (what strings.Clone calls): "Clone returns a fresh copy of s.": THE SAME BYTES. Of what was there nothing has turned (a new row is laid, and frozen, where s is not empty). (LAID: no walk: one application.) -/
theorem Try.stringslite_Clone (s : ByteArray) (w : World) (hlim : s.size ≤ 281474976710656) :
    Calls Try.prog 55 #[.string s] w fun e w' => e = .returned (.string s) ∧ Below w.heap.size w w' := Any.stringslite_Clone Try.laysM316 s w hlim
def Try.lays99_ren : Go.Shelf.Ren := ⟨fun | 99 => 59 | 206 => 64 | n => n, fun | 9 => 9 | 4 => 4 | 3 => 3 | n => n, fun | n => n⟩
theorem Try.lays99 : Go.Proofs.Lays.n99 Try.prog Try.lays99_ren := {
  mixed := by kernel_rfl
  f99 := Try.func59.trans (congrArg some (by kernel_rfl))
  f206 := Try.func64.trans (congrArg some (by kernel_rfl))
  t3 := Try.underlying3
  a3 := Try.isAgg3
  z3 := Try.sizeOf3
  v3 := Try.zeroValue3
  t4 := Try.underlying4
  a4 := Try.isAgg4
  z4 := Try.sizeOf4
  v4 := Try.zeroValue4
  t9 := Try.underlying9
  a9 := Try.isAgg9
  z9 := Try.sizeOf9
  v9 := Try.zeroValue9 }
open Go.RowKit Go.Lib in
/-- strings.HasPrefix: "HasPrefix reports whether the string s begins with prefix.": IT RETURNS 'Lib.hasPrefix s prefix'; the world is as it was. (LAID: no walk: one application.) -/
theorem Try.strings_HasPrefix (s p : ByteArray) (w : World) :
    Calls Try.prog 59 #[.string s, .string p] w fun e w' => e = .returned (.bool (Lib.hasPrefix s.data.toList p.data.toList)) ∧ w' = w := Any.strings_HasPrefix Try.lays99 s p w
end Go.Proofs

namespace Go.Proofs.Ytlochpnifjmefaa
open Go.RowKit

/-- A text, and its sum behind it. -/
def markL (l : List UInt8) : List UInt8 := l ++ le4 (crcV l)
theorem str_data (p : ByteArray) : str p.data.toList = p := by
  apply ByteArray.ext; simp [str]
theorem data_str (l : List UInt8) : (str l).data.toList = l := by simp [str]

theorem run_add_str (p : ByteArray) (l : List UInt8) (h : p.size + l.length ≤ 9223372036854775807) (W : World) : (Op.stringOp .add p (str l)).run Try.prog W = .ok (.string (str (p.data.toList ++ l))) W := by
  rw [run_string_add_sum W p (str l) (by rw [size_str]; exact h), ← str_append, str_data]

theorem mark_any (p : ByteArray) (w : World) (hp : p.size ≤ 1000000000) :
    Calls Try.prog 43 #[.string p] w fun e w' => e = .returned (.string (str (markL p.data.toList))) ∧ Below w.heap.size w w' := by
  have k1 := fun w => tail_any p w hp
  have hadd := fun W => run_add_str p (le4 (crcV p.data.toList)) (by rw [le4_length]; omega) W
  rw [show p.data.toList ++ le4 (crcV p.data.toList) = markL p.data.toList from rfl] at hadd
  have K1 := Lib.hid k1
  clear k1
  go_enter Try.func43, Try.ntmps43
  go_wp2_with (first
    | (go_at_call 57; go_must (refine (K1.out _).mono ?_); rintro e w2 ⟨rfl, hb2⟩))
  go_ret
  exact ⟨rfl, hb2⟩

/-- 'string([]byte{a, b, c, d})' of a slice just laid. -/
theorem run_four_bytes (W : World) (V : Nat) (hV : V < 4294967296) :
    (convert 69 9 (.slice (some ⟨W.heap.size, 0, none⟩) 4 4)).run Try.prog (W.alloc (.cells #[.int .u8 ((V : Int) % 256), .int .u8 ((V : Int) / 256 % 256), .int .u8 ((V : Int) / 65536 % 256), .int .u8 ((V : Int) / 16777216)] 5)) = .ok (.string (str (le4 V))) (W.alloc (.cells #[.int .u8 ((V : Int) % 256), .int .u8 ((V : Int) / 256 % 256), .int .u8 ((V : Int) / 65536 % 256), .int .u8 ((V : Int) / 16777216)] 5)) := by
  refine run_convert_bytes_back (P := Try.prog) _ 69 9 5 ⟨W.heap.size, 0, none⟩ 4 (le4 V) Try.underlying69 Try.underlying5 Try.underlying9 ?_
  intro j hj
  match j, hj with
  | 0, _ => simp [Addr.add, le4]
  | 1, _ => simp [Addr.add, le4]
  | 2, _ => simp [Addr.add, le4]
  | 3, _ => simp [Addr.add, le4]; omega

theorem rmark_any (p : ByteArray) (w : World) (hp : p.size ≤ 1000000000) :
    Calls Try.prog 44 #[.string p] w fun e w' => e = .returned (.string (str (markL p.data.toList))) ∧ Below w.heap.size w w' := by
  have k1 := fun w => rcrc_one p w hp
  have hadd := fun W => run_add_str p (le4 (crcV p.data.toList)) (by rw [le4_length]; omega) W
  rw [show p.data.toList ++ le4 (crcV p.data.toList) = markL p.data.toList from rfl] at hadd
  have hv := crcV_lt p.data.toList
  generalize crcV p.data.toList = V at *
  have hcv := fun W => run_four_bytes W V hv
  have K1 := Lib.hid k1
  clear k1
  have hB := Below.refl w.heap.size w
  go_enter Try.func44, Try.ntmps44
  go_wp2_with (first
    | (go_at_call 58; go_must (refine (K1.out _).mono ?_); rintro e w2 ⟨rfl, rfl⟩))
  go_ret
  exact ⟨rfl, hB.alloc hB.size _⟩

theorem clone_any (p : ByteArray) (w : World) (hp : p.size ≤ 1000000000) : Calls Try.prog 39 #[.string p] w fun e w' => e = .returned (.string p) ∧ Below w.heap.size w w' := by
  have K1 := Lib.hid (fun w => Try.stringslite_Clone p w (by omega))
  go_enter Try.func39, Try.ntmps39
  go_wp2_with (first
    | (go_at_call 55; go_must (refine (K1.out _).mono ?_); rintro e w2 ⟨rfl, hb2⟩))
  go_ret
  exact ⟨rfl, hb2⟩

theorem check_short (p : ByteArray) (w : World) (hp : p.size < 4) :
    Calls Try.prog 61 #[.string p] w fun e w' => e = .returned (.tuple #[.string ⟨#[]⟩, .int .i64 3]) ∧ Below w.heap.size w w' := by
  go_enter Try.func61, Try.ntmps61
  go_wp2
  go_ret2
  exact ⟨rfl, Below.refl _ _⟩

theorem bdn (w : World) (n : Nat) : Below w.heap.size w (w.drewN n) := ⟨rfl, rfl, rfl, Nat.le_refl _, fun _ _ => rfl⟩

theorem check_ok (p : ByteArray) (w : World) (n : Nat) (hn : p.size = n + 4) (hp : p.size ≤ 1000000000) (hm : (p.extract n p.size).toList = le4 (crcV (p.extract 0 n).data.toList)) :
    Calls Try.prog 61 #[.string p] w fun e w' => e = .returned (.tuple #[.string (p.extract 0 n), .int .i64 0]) ∧ Below w.heap.size w w' := by
  have e1 : (p.size : Int) - 4 = (n : Int) := by omega
  have h4 : ¬ p.size < 4 := by omega
  have hle : n ≤ p.size := by omega
  have hsz : (p.extract 0 n).size ≤ 1000000000 := by rw [ByteArray.size_extract]; omega
  have k1 := fun w => tail_any (p.extract 0 n) w hsz
  have K2 := Lib.hid (fun w => clone_any (p.extract 0 n) w hsz)
  generalize le4 (crcV (p.extract 0 n).data.toList) = L at *
  have K1 := Lib.hid k1
  clear k1
  have hd1 : ((p.extract n p.size).toList == (str L).toList) = true := by
    rw [toList_str]; simp [hm]
  have hd2 : ((p.extract n p.size).toList != (str L).toList) = false := by
    rw [toList_str]; simp [hm]
  clear hn hsz hm
  go_enter Try.func61, Try.ntmps61
  go_wp2
  go_quiet (fail)
  go_wp2_with (first
    | (go_at_call 57; go_must (refine (K1.out _).mono ?_); rintro e w2 ⟨rfl, hb2⟩)
    | (go_at_call 39; go_must (refine (K2.out _).mono ?_); rintro e w3 ⟨rfl, hb3⟩))
  go_ret2
  exact ⟨rfl, ((bdn w _).trans hb2).trans (hb3.mono hb2.size)⟩

theorem check_bad (p : ByteArray) (w : World) (n : Nat) (hn : p.size = n + 4) (hp : p.size ≤ 1000000000) (hm : ¬ (p.extract n p.size).toList = le4 (crcV (p.extract 0 n).data.toList)) :
    Calls Try.prog 61 #[.string p] w fun e w' => e = .returned (.tuple #[.string ⟨#[]⟩, .int .i64 9]) ∧ Below w.heap.size w w' := by
  have e1 : (p.size : Int) - 4 = (n : Int) := by omega
  have h4 : ¬ p.size < 4 := by omega
  have hle : n ≤ p.size := by omega
  have hsz : (p.extract 0 n).size ≤ 1000000000 := by rw [ByteArray.size_extract]; omega
  have k1 := fun w => tail_any (p.extract 0 n) w hsz
  generalize le4 (crcV (p.extract 0 n).data.toList) = L at *
  have K1 := Lib.hid k1
  clear k1
  have hd1 : ((p.extract n p.size).toList == (str L).toList) = false := by
    rw [toList_str]; simp [hm]
  have hd2 : ((p.extract n p.size).toList != (str L).toList) = true := by
    rw [toList_str]; simp [hm]
  clear hn hsz hm
  go_enter Try.func61, Try.ntmps61
  go_wp2
  go_quiet (fail)
  go_wp2_with (first
    | (go_at_call 57; go_must (refine (K1.out _).mono ?_); rintro e w2 ⟨rfl, hb2⟩))
  go_ret2
  exact ⟨rfl, (bdn w _).trans hb2⟩

theorem check_mark (l : List UInt8) (w : World) (hl : l.length ≤ 100000000) :
    Calls Try.prog 61 #[.string (str (markL l))] w fun e w' => e = .returned (.tuple #[.string (str l), .int .i64 0]) ∧ Below w.heap.size w w' := by
  have hsz : (str (markL l)).size = l.length + 4 := by rw [size_str]; simp [markL, le4_length]
  have e0 : (str (markL l)).extract 0 l.length = str l := by
    apply ByteArray.ext
    apply Array.ext'
    simp [str, markL]
  have e1 : ((str (markL l)).extract l.length (str (markL l)).size).toList = le4 (crcV l) := by
    rw [Lib.extract_toList, data_str, hsz]
    simp [markL]
    rfl
  have h := check_ok (str (markL l)) w l.length hsz (by omega) (by rw [e1, e0, data_str])
  rw [e0] at h
  exact h
end Go.Proofs.Ytlochpnifjmefaa
