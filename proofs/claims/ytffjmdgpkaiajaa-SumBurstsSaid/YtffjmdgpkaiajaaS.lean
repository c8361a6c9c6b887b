/- Walk of the law SumMarks. -/
import Derived.Test.YtffjmdgpkaiajaaR
import Derived.Test.YtffjmdgpkaiajaaJ
namespace Go.Proofs.Ytffjmdgpkaiajaa
open Go.RowKit

/-- A text of four bytes or more is its head and its last four. -/
theorem mark_iff (t : ByteArray) (n : Nat) (_hn : t.size = n + 4) : markL (t.extract 0 n).data.toList = t.data.toList ↔ (t.extract n t.size).toList = le4 (crcV (t.extract 0 n).data.toList) := by
  have h1 : (t.extract 0 n).data.toList = t.data.toList.take n := by simp
  have h2 : (t.extract n t.size).toList = t.data.toList.drop n := by
    rw [Lib.extract_toList, List.take_of_length_le]
    simp
  have h3 : t.data.toList = t.data.toList.take n ++ t.data.toList.drop n := (List.take_append_drop n t.data.toList).symm
  rw [h2, h1]
  unfold markL
  generalize le4 (crcV (t.data.toList.take n)) = L
  constructor
  · intro h
    rw [h3] at h
    simp only [List.take_append_drop] at h
    have h' : t.data.toList.take n ++ L = t.data.toList.take n ++ t.data.toList.drop n := by rw [List.take_append_drop]; exact h
    exact (List.append_cancel_left h').symm
  · intro h
    rw [← h, List.take_append_drop]

theorem sumMarks_great (s t : ByteArray) (hgr : 2000 < s.size ∨ 2000 < t.size) (w : World) :
    Calls Try.prog 7 #[.string s, .string t] w fun e w' => e = .returned (.bool true) ∧ Below w.heap.size w w' := by
  have hB := Below.refl w.heap.size w
  go_enter Try.func7, Try.ntmps7
  go_wp2_with (first
    | (go_at_call 19; go_must (refine (awake2_any _).mono ?_); rintro e w1 ⟨rfl, hb1⟩; replace hB := hB.trans (hb1.mono hB.size)))
  go_ret
  exact ⟨rfl, hB⟩

theorem sumMarks_short (s t : ByteArray) (hs : s.size ≤ 2000) (ht : t.size < 4) (w : World) :
    Calls Try.prog 7 #[.string s, .string t] w fun e w' => e = .returned (.bool true) ∧ Below w.heap.size w w' := by
  have k1 := fun w => mark_any s w (by omega)
  have k2 := fun w => rmark_any s w (by omega)
  have k3 := fun w => check_mark s.data.toList w (by simp; omega)
  have k4 := fun w => check_short t w ht
  rw [str_data] at k3
  generalize markL s.data.toList = M at *
  have K1 := Lib.hid k1
  have K2 := Lib.hid k2
  have K3 := Lib.hid k3
  have K4 := Lib.hid k4
  clear k1 k2 k3 k4
  have hB := Below.refl w.heap.size w
  go_enter Try.func7, Try.ntmps7
  go_wp2_with (first
    | (go_at_call 19; go_must (refine (awake2_any _).mono ?_); rintro e w1 ⟨rfl, hb1⟩; replace hB := hB.trans (hb1.mono hB.size))
    | (go_at_call 25; go_must (refine (K1.out _).mono ?_); rintro e w1 ⟨rfl, hb1⟩; replace hB := hB.trans (hb1.mono hB.size))
    | (go_at_call 27; go_must (refine (K2.out _).mono ?_); rintro e w1 ⟨rfl, hb1⟩; replace hB := hB.trans (hb1.mono hB.size))
    | (go_at_call 26; ((with_reducible refine (K3.out _).mono ?_); rintro e w1 ⟨rfl, hb1⟩; replace hB := hB.trans (hb1.mono hB.size)))
    | (go_at_call 26; ((with_reducible refine (K4.out _).mono ?_); rintro e w1 ⟨rfl, hb1⟩; replace hB := hB.trans (hb1.mono hB.size))))
  go_ret
  exact ⟨rfl, hB⟩
theorem sumMarks_ok (s t : ByteArray) (hs : s.size ≤ 2000) (n : Nat) (hn : t.size = n + 4) (ht : t.size ≤ 2000) (hm : (t.extract n t.size).toList = le4 (crcV (t.extract 0 n).data.toList)) (w : World) :
    Calls Try.prog 7 #[.string s, .string t] w fun e w' => e = .returned (.bool true) ∧ Below w.heap.size w w' := by
  have k1 := fun w => mark_any s w (by omega)
  have k2 := fun w => rmark_any s w (by omega)
  have k3 := fun w => check_mark s.data.toList w (by simp; omega)
  have k4 := fun w => check_ok t w n hn (by omega) hm
  have k5 := fun w => rmark_any (t.extract 0 n) w (by rw [ByteArray.size_extract]; omega)
  rw [str_data] at k3
  have hm' := mark_iff t n hn
  have hd1 : ((str (markL (t.extract 0 n).data.toList)).toList == t.toList) = true := by
    rw [toList_str, Lib.toList_data]
    simp only [beq_iff_eq]
    rw [hm']; exact hm
  have e1 : (t.size : Int) - 4 = (n : Int) := by omega
  have h4 : ¬ t.size < 4 := by omega
  have hle : n ≤ t.size := by omega
  clear hm hm' hn
  generalize markL (t.extract 0 n).data.toList = MU at *
  generalize markL s.data.toList = M at *
  have K1 := Lib.hid k1
  have K2 := Lib.hid k2
  have K3 := Lib.hid k3
  have K4 := Lib.hid k4
  have K5 := Lib.hid k5
  clear k1 k2 k3 k4 k5
  have hB := Below.refl w.heap.size w
  go_enter Try.func7, Try.ntmps7
  go_wp2_with (first
    | (go_at_call 19; go_must (refine (awake2_any _).mono ?_); rintro e w1 ⟨rfl, hb1⟩; replace hB := hB.trans (hb1.mono hB.size))
    | (go_at_call 25; go_must (refine (K1.out _).mono ?_); rintro e w1 ⟨rfl, hb1⟩; replace hB := hB.trans (hb1.mono hB.size))
    | (go_at_call 27; ((with_reducible refine (K2.out _).mono ?_); rintro e w1 ⟨rfl, hb1⟩; replace hB := hB.trans (hb1.mono hB.size)))
    | (go_at_call 27; ((with_reducible refine (K5.out _).mono ?_); rintro e w1 ⟨rfl, hb1⟩; replace hB := hB.trans (hb1.mono hB.size)))
    | (go_at_call 26; ((with_reducible refine (K3.out _).mono ?_); rintro e w1 ⟨rfl, hb1⟩; replace hB := hB.trans (hb1.mono hB.size)))
    | (go_at_call 26; ((with_reducible refine (K4.out _).mono ?_); rintro e w1 ⟨rfl, hb1⟩; replace hB := hB.trans (hb1.mono hB.size))))
  go_ret
  exact ⟨rfl, hB⟩
theorem sumMarks_bad (s t : ByteArray) (hs : s.size ≤ 2000) (n : Nat) (hn : t.size = n + 4) (ht : t.size ≤ 2000) (hm : ¬ (t.extract n t.size).toList = le4 (crcV (t.extract 0 n).data.toList)) (w : World) :
    Calls Try.prog 7 #[.string s, .string t] w fun e w' => e = .returned (.bool true) ∧ Below w.heap.size w w' := by
  have k1 := fun w => mark_any s w (by omega)
  have k2 := fun w => rmark_any s w (by omega)
  have k3 := fun w => check_mark s.data.toList w (by simp; omega)
  have k4 := fun w => check_bad t w n hn (by omega) hm
  have k5 := fun w => rmark_any (t.extract 0 n) w (by rw [ByteArray.size_extract]; omega)
  rw [str_data] at k3
  have hm' := mark_iff t n hn
  have hd1 : ((str (markL (t.extract 0 n).data.toList)).toList == t.toList) = false := by
    rw [toList_str, Lib.toList_data]
    simp only [beq_eq_false_iff_ne, ne_eq]
    rw [hm']; exact hm
  have e1 : (t.size : Int) - 4 = (n : Int) := by omega
  have h4 : ¬ t.size < 4 := by omega
  have hle : n ≤ t.size := by omega
  clear hm hm' hn
  generalize markL (t.extract 0 n).data.toList = MU at *
  generalize markL s.data.toList = M at *
  have K1 := Lib.hid k1
  have K2 := Lib.hid k2
  have K3 := Lib.hid k3
  have K4 := Lib.hid k4
  have K5 := Lib.hid k5
  clear k1 k2 k3 k4 k5
  have hB := Below.refl w.heap.size w
  go_enter Try.func7, Try.ntmps7
  go_wp2_with (first
    | (go_at_call 19; go_must (refine (awake2_any _).mono ?_); rintro e w1 ⟨rfl, hb1⟩; replace hB := hB.trans (hb1.mono hB.size))
    | (go_at_call 25; go_must (refine (K1.out _).mono ?_); rintro e w1 ⟨rfl, hb1⟩; replace hB := hB.trans (hb1.mono hB.size))
    | (go_at_call 27; ((with_reducible refine (K2.out _).mono ?_); rintro e w1 ⟨rfl, hb1⟩; replace hB := hB.trans (hb1.mono hB.size)))
    | (go_at_call 27; ((with_reducible refine (K5.out _).mono ?_); rintro e w1 ⟨rfl, hb1⟩; replace hB := hB.trans (hb1.mono hB.size)))
    | (go_at_call 26; ((with_reducible refine (K3.out _).mono ?_); rintro e w1 ⟨rfl, hb1⟩; replace hB := hB.trans (hb1.mono hB.size)))
    | (go_at_call 26; ((with_reducible refine (K4.out _).mono ?_); rintro e w1 ⟨rfl, hb1⟩; replace hB := hB.trans (hb1.mono hB.size))))
  go_ret
  exact ⟨rfl, hB⟩
theorem sumMarks_walk (s t : ByteArray) (w : World) :
    Calls Try.prog 7 #[.string s, .string t] w fun e w' => e = .returned (.bool true) ∧ Below w.heap.size w w' := by
  by_cases h1 : 2000 < s.size ∨ 2000 < t.size
  · exact sumMarks_great s t h1 w
  · by_cases h2 : t.size < 4
    · exact sumMarks_short s t (by omega) h2 w
    · by_cases h3 : (t.extract (t.size - 4) t.size).toList = le4 (crcV (t.extract 0 (t.size - 4)).data.toList)
      · exact sumMarks_ok s t (by omega) (t.size - 4) (by omega) (by omega) h3 w
      · exact sumMarks_bad s t (by omega) (t.size - 4) (by omega) (by omega) h3 w
end Go.Proofs.Ytffjmdgpkaiajaa
