/- The law WordDigits, every input. -/
import Derived.Test.YtmflpjgedoopoaaDoorVH
import Derived.Test.YtmflpjgedoopoaaDoorVA
import Derived.WalkSmall
namespace Go.Proofs.YtmflpjgedoopoaaDoor.W
open Go.RowKit

theorem at_list (s : ByteArray) (j : Nat) (h : j < s.size) : s.data.toList[j]'(by simpa using h) = s[j] := by simp; rfl
theorem good_of (s : ByteArray) (h1 : 1 ≤ s.size) (hz : ¬ (1 < s.size ∧ s[0].toNat = 48)) (hall : ∀ j, (h : j < s.size) → 48 ≤ s[j].toNat ∧ s[j].toNat ≤ 57) : good s.data.toList := by
  have hl : s.data.toList.length = s.size := by simp
  refine ⟨?_, ?_, ?_⟩
  · intro h; rw [h] at hl; simp at hl; omega
  · intro c hc
    obtain ⟨j, hj, rfl⟩ := List.mem_iff_getElem.1 hc
    have := hall j (by omega)
    rw [at_list s j (by omega)]
    exact this
  · intro h48
    rw [hl]
    have h0 : s.data.toList.head? = some (s.data.toList[0]'(by omega)) := by
      rw [List.head?_eq_getElem?, List.getElem?_eq_getElem]
    rw [h0, at_list s 0 (by omega)] at h48
    have e : s[0] = 48 := by simpa using h48
    rcases Nat.lt_or_ge 1 s.size with h | h
    · exact absurd ⟨h, by rw [e]; rfl⟩ hz
    · omega
theorem of_good (s : ByteArray) (g : good s.data.toList) (h1 : 1 ≤ s.size) : (¬ (1 < s.size ∧ s[0].toNat = 48)) ∧ ∀ j, (h : j < s.size) → 48 ≤ s[j].toNat ∧ s[j].toNat ≤ 57 := by
  have hl : s.data.toList.length = s.size := by simp
  obtain ⟨g1, g2, g3⟩ := g
  refine ⟨?_, ?_⟩
  · intro ⟨ha, hb⟩
    have h0 : s.data.toList.head? = some (s.data.toList[0]'(by omega)) := by
      rw [List.head?_eq_getElem?, List.getElem?_eq_getElem]
    rw [at_list s 0 (by omega)] at h0
    have e : s[0] = 48 := UInt8.toNat_inj.1 hb
    rw [e] at h0
    have := g3 h0
    omega
  · intro j h
    have := g2 (s.data.toList[j]'(by omega)) (List.getElem_mem _)
    rw [at_list s j h] at this
    exact this
theorem data_str (l : List UInt8) : (str l).data.toList = l := by simp [str]
theorem str_data (p : ByteArray) : str p.data.toList = p := by
  apply ByteArray.ext; simp [str]

end Go.Proofs.YtmflpjgedoopoaaDoor.W
