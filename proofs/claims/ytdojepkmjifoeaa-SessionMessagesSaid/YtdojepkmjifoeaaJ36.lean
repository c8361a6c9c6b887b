/- The document's Next of any text. -/
import Derived.Test.YtdojepkmjifoeaaJ35
set_option linter.unusedVariables false
set_option linter.unusedSimpArgs false
namespace Go.Proofs.Ytdojepkmjifoeaa
open Go.RowKit

theorem rnext_any (s : ByteArray) (w : World) :
    Calls Try.prog 28 #[.string s] w fun r w' => r = .returned (rnV (rK s) (rE s) (rB s) (rN s) (codeS s)) ∧ Below w.heap.size w w' := by
  by_cases h1 : s.size < 20
  · have hc : codeS s = 3 := by unfold codeS; rw [if_pos h1]
    obtain ⟨a, b, c, _, d⟩ := r_bad (s := s) (by omega)
    rw [a, b, c, d, hc]; exact rnext_short s h1 w
  by_cases h2 : preS s = false
  · have hc : codeS s = 4 := by unfold codeS; rw [if_neg h1, if_pos h2]
    obtain ⟨a, b, c, _, d⟩ := r_bad (s := s) (by omega)
    rw [a, b, c, d, hc]; exact rnext_form s (by omega) h2 w
  by_cases h3 : kindS s = 0
  · have hc : codeS s = 10 := by unfold codeS; rw [if_neg h1, if_neg h2, if_pos h3]
    obtain ⟨a, b, c, _, d⟩ := r_bad (s := s) (by omega)
    rw [a, b, c, d, hc]; exact rnext_kind s (by omega) (by simpa using h2) h3 w
  by_cases h4 : 8192 < lenN s
  · have hc : codeS s = 5 := by unfold codeS; rw [if_neg h1, if_neg h2, if_neg h3, if_pos h4]
    obtain ⟨a, b, c, _, d⟩ := r_bad (s := s) (by omega)
    rw [a, b, c, d, hc]; exact rnext_long s (by omega) (by simpa using h2) h3 h4 w
  by_cases h5 : s.size < lenN s + 20
  · have hc : codeS s = 3 := by unfold codeS; rw [if_neg h1, if_neg h2, if_neg h3, if_neg h4, if_pos h5]
    obtain ⟨a, b, c, _, d⟩ := r_bad (s := s) (by omega)
    rw [a, b, c, d, hc]; exact rnext_cut s (by omega) (by simpa using h2) h3 (by omega) h5 w
  have hf := rnext_fine s (by omega) (by simpa using h2) h3 (by omega) (by omega) w
  by_cases h6 : okS s
  · have hc : codeS s = 0 := by unfold codeS; rw [if_neg h1, if_neg h2, if_neg h3, if_neg h4, if_neg h5, if_pos h6]
    obtain ⟨a, b, c, _, d⟩ := r_ok hc
    rw [a, b, c, d, hc]
    refine hf.mono ?_
    rintro r w' ⟨hb, ⟨_, rfl⟩ | ⟨hn, _⟩⟩
    · exact ⟨rfl, hb⟩
    · exact absurd h6 hn
  · have hc : codeS s = 9 := by unfold codeS; rw [if_neg h1, if_neg h2, if_neg h3, if_neg h4, if_neg h5, if_neg h6]
    obtain ⟨a, b, c, _, d⟩ := r_bad (s := s) (by omega)
    rw [a, b, c, d, hc]
    refine hf.mono ?_
    rintro r w' ⟨hb, ⟨hn, _⟩ | ⟨_, rfl⟩⟩
    · exact absurd hn h6
    · exact ⟨rfl, hb⟩
end Go.Proofs.Ytdojepkmjifoeaa
