/- The law WordDigits, every input. -/
import Derived.Test.YtffjmdgpkaiajaaDoorF
import Derived.WalkSmall
namespace Go.Proofs.YtffjmdgpkaiajaaDoor
open Go.RowKit

theorem at_list (s : ByteArray) (j : Nat) (h : j < s.size) : s.data.toList[j]'(by simpa using h) = s[j] := by simp; rfl
theorem good_of (s : ByteArray) (h1 : 1 ≤ s.size) (hz : ¬ (1 < s.size ∧ s[0].toNat = 48)) (hall : ∀ j, (h : j < s.size) → 48 ≤ s[j].toNat ∧ s[j].toNat ≤ 57) : good s.data.toList := by
  have hl : s.data.toList.length = s.size := by simp
  refine ⟨?_, ?_, ?_⟩
  · intro h; rw [h] at hl; simp at hl; omega
  · intro c hc
    obtain ⟨j, hj, rfl⟩ := List.mem_iff_getElem.1 hc
    have := hall j (by omega)
    rw [at_list s j (by omega)]
    exact this
  · intro h48
    rw [hl]
    have h0 : s.data.toList.head? = some (s.data.toList[0]'(by omega)) := by
      rw [List.head?_eq_getElem?, List.getElem?_eq_getElem]
    rw [h0, at_list s 0 (by omega)] at h48
    have e : s[0] = 48 := by simpa using h48
    rcases Nat.lt_or_ge 1 s.size with h | h
    · exact absurd ⟨h, by rw [e]; rfl⟩ hz
    · omega
theorem of_good (s : ByteArray) (g : good s.data.toList) (h1 : 1 ≤ s.size) : (¬ (1 < s.size ∧ s[0].toNat = 48)) ∧ ∀ j, (h : j < s.size) → 48 ≤ s[j].toNat ∧ s[j].toNat ≤ 57 := by
  have hl : s.data.toList.length = s.size := by simp
  obtain ⟨g1, g2, g3⟩ := g
  refine ⟨?_, ?_⟩
  · intro ⟨ha, hb⟩
    have h0 : s.data.toList.head? = some (s.data.toList[0]'(by omega)) := by
      rw [List.head?_eq_getElem?, List.getElem?_eq_getElem]
    rw [at_list s 0 (by omega)] at h0
    have e : s[0] = 48 := UInt8.toNat_inj.1 hb
    rw [e] at h0
    have := g3 h0
    omega
  · intro j h
    have := g2 (s.data.toList[j]'(by omega)) (List.getElem_mem _)
    rw [at_list s j h] at this
    exact this
theorem data_str (l : List UInt8) : (str l).data.toList = l := by simp [str]
theorem str_data (p : ByteArray) : str p.data.toList = p := by
  apply ByteArray.ext; simp [str]

theorem gER : Tryd.prog.globalNamed "strconv.ErrRange" = some 2 := by kernel_rfl

theorem law_walk (n : Nat) (hn : n < 18446744073709551616) (s : ByteArray) (w : World) (htab : Lib.TabIs Tryd.prog w "internal/strconv.uint64pow10" .u64 Lib.pow10Tab)
    (tp : TypeId) (pv : Value) (hvar : w.var? Tryd.prog "strconv.ErrRange" = some #[.iface tp pv]) :
    Calls Tryd.prog 3 #[.int .u64 n, .string s] w fun e w' => e = .returned (.bool true) ∧ Below w.heap.size w w' := by
  have hT := Lib.tabBelow_of_tabIs htab
  have hlt : 2 < w.heap.size := by
    have hc := World.var?_cell gER hvar 0
    rcases Nat.lt_or_ge 2 w.heap.size with h | h
    · exact h
    · simp [World.cell?, Array.getElem?_eq_none h] at hc
  have hV : ∀ w', Below w.heap.size w w' → w'.var? Tryd.prog "strconv.ErrRange" = some #[.iface tp pv] := fun w' hb => var?_below hb gER hlt hvar
  by_cases h100 : 100 < s.size
  · exact law_great n s h100 w
  · have k1 : ∀ w', Below w.heap.size w w' → Calls Tryd.prog 5 #[.int .u64 n] w' fun e w'' => e = .returned (.string (str (Lib.decDigits n))) ∧ Below w'.heap.size w' w'' := fun w' hb => digits_any n hn w' (hT w' hb)
    have k5 := fun w' => rdigits_any n (by omega) w'
    obtain ⟨gd, gv, -⟩ := dec_good n
    have hul : (Lib.decDigits n).length ≤ 20 := by
      by_cases h0 : n = 0
      · subst h0; rw [dec_small 0 (by omega)]; simp
      · rw [Lib.decDigits_length]
        have := Lib.numDigits_eq n (by omega) (by omega)
        split at this <;> omega
    have hpos : 1 ≤ (str (Lib.decDigits n)).size := by
      rw [size_str]
      rcases Nat.eq_zero_or_pos (Lib.decDigits n).length with h | h
      · exact absurd (List.eq_nil_of_length_eq_zero h) gd.1
      · exact h
    have gt2 : good (str (Lib.decDigits n)).data.toList := by rw [data_str]; exact gd
    obtain ⟨t1, t2⟩ := of_good _ gt2 hpos
    have k2 : ∀ w', Calls Tryd.prog 6 #[.string (str (Lib.decDigits n))] w' fun e w'' => e = .returned (.tuple #[.int .u64 n, .int .i64 0]) ∧ Below w'.heap.size w' w'' := fun w' => by
      refine number_ok _ hpos t1 t2 n ?_ (by rw [size_str]; omega) w'
      rw [parse_ok _ gt2.1 gt2.2.1 (by rw [data_str, gv]; omega), data_str, gv]
    by_cases h0 : s.size = 0
    · exact law_no n s _ (by omega) 4 (.inl rfl) w k1 k2 (fun w' _ => number_empty s h0 w') (fun w' => rnumber_empty s h0 w') k5
    · by_cases hz : 1 < s.size ∧ (s[0]'(by omega)).toNat = 48
      · exact law_no n s _ (by omega) 4 (.inl rfl) w k1 k2 (fun w' _ => number_nought s hz.1 hz.2 w') (fun w' => rnumber_nought s hz.1 (by omega) hz.2 w') k5
      · by_cases hbad : ∃ j, ∃ h : j < s.size, ¬ (48 ≤ s[j].toNat ∧ s[j].toNat ≤ 57)
        · exact law_no n s _ (by omega) 4 (.inl rfl) w k1 k2 (fun w' _ => number_bad s (by omega) hz hbad (by omega) w') (fun w' => rnumber_bad s (by omega) hz hbad (by omega) w') k5
        · have hall : ∀ j, (h : j < s.size) → 48 ≤ s[j].toNat ∧ s[j].toNat ≤ 57 := by
            intro j h
            exact Decidable.byContradiction fun hh => hbad ⟨j, h, hh⟩
          have g := good_of s (by omega) hz hall
          by_cases hu : val s.data.toList ≤ 18446744073709551615
          · refine law_yes n s _ (by omega) (val s.data.toList) w k1 k2 (fun w' => number_ok s (by omega) hz hall _ (parse_ok _ g.1 g.2.1 hu) (by omega) w') (fun w' => rnumber_ok s (by omega) hz hall hu (by omega) w') k5 (fun w' hb => ?_)
            have h := digits_any (val s.data.toList) (by omega) w' (hT w' hb)
            rw [dec_val _ _ rfl g] at h
            have e : (⟨s.data.toList.toArray⟩ : ByteArray) = s := str_data s
            rw [e] at h
            exact h
          · exact law_no n s _ (by omega) 7 (.inr rfl) w k1 k2 (fun w' hb => number_range s (by omega) hz hall w' (parse_range _ g.1 g.2.1 hu) tp pv (hV w' hb) (by omega)) (fun w' => rnumber_range s (by omega) hz hall hu (by omega) w') k5
end Go.Proofs.YtffjmdgpkaiajaaDoor
