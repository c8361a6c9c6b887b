/- A host's part, by definition. -/
import Derived.Test.YtmflpjgedoopoaaDoorC
namespace Go.Proofs.YtmflpjgedoopoaaDoor
open Go.RowKit

def PartAt (m j : Nat) (c : UInt8) : Prop := letterB c = true ∨ digitB c = true ∨ (c = 45 ∧ 0 < j ∧ j + 1 < m)
theorem partAt_iff (m j : Nat) (c : UInt8) : PartAt m j c ↔ (97 ≤ c.toNat ∧ c.toNat ≤ 122) ∨ (48 ≤ c.toNat ∧ c.toNat ≤ 57) ∨ (c.toNat = 45 ∧ 0 < j ∧ j + 1 < m) := by
  unfold PartAt letterB digitB
  simp [byte_eq]
theorem getLastD_getD (l : List UInt8) (_ : 0 < l.length) : l.getLastD 0 = l.getD (l.length - 1) 0 := by
  rw [List.getLastD_eq_getLast?, List.getLast?_eq_getElem?, List.getD_eq_getElem?_getD]
theorem headD_getD (l : List UInt8) : l.headD 0 = l.getD 0 0 := by cases l <;> rfl
theorem partB_iff (l : List UInt8) : partB l = true ↔ 0 < l.length ∧ l.length ≤ 32 ∧ ∀ j, j < l.length → PartAt l.length j (l.getD j 0) := by
  unfold partB
  rw [headD_getD]
  simp only [Bool.and_eq_true, decide_eq_true_eq, List.all_eq_true, bne_iff_ne]
  constructor
  · rintro ⟨⟨⟨⟨h1, h2⟩, h3⟩, h4⟩, h5⟩
    rw [getLastD_getD l h1] at h4
    refine ⟨h1, h2, fun j hj => ?_⟩
    have h := h5 _ (getD_mem hj)
    unfold plainB at h
    unfold PartAt
    simp only [Bool.or_eq_true] at h
    rcases h with (h | h) | h
    · exact Or.inl h
    · exact Or.inr (Or.inl h)
    · have e : l.getD j 0 = 45 := by simpa using h
      refine Or.inr (Or.inr ⟨e, ?_, ?_⟩)
      · rcases Nat.eq_zero_or_pos j with rfl | hp
        · exact absurd e h3
        · exact hp
      · by_cases hl : j + 1 < l.length
        · exact hl
        · have : j = l.length - 1 := by omega
          subst this; exact absurd e h4
  · rintro ⟨h1, h2, h3⟩
    refine ⟨⟨⟨⟨h1, h2⟩, ?_⟩, ?_⟩, ?_⟩
    · intro e
      have := (partAt_iff _ _ _).1 (h3 0 h1)
      rw [e] at this
      simp at this
    · rw [getLastD_getD l h1]
      intro e
      have := (partAt_iff _ _ _).1 (h3 (l.length - 1) (by omega))
      rw [e] at this
      simp at this
      omega
    · intro x hx
      obtain ⟨j, hj, rfl⟩ := mem_getD hx
      have := h3 j hj
      unfold plainB
      rcases this with h | h | ⟨h, _⟩
      · simp only [h, Bool.true_or]
      · simp only [h, Bool.true_or, Bool.or_true]
      · rw [h]; rfl

set_option maxHeartbeats 4000000 in
theorem part_any (s : ByteArray) (w : World) (hs : s.size ≤ 4294967280) :
    Calls Tryd.prog 46 #[.string s] w fun e w' => e = .returned (.bool (partB s.data.toList)) ∧ w = w' := by
  have HL := Lib.hid (Lib.size_eq s)
  obtain ⟨R, hR⟩ : ∃ R, R = partB s.data.toList := ⟨_, rfl⟩
  rw [← hR]
  have HR := Lib.hid hR
  clear hR
  go_enter Tryd.func46, Tryd.ntmps46
  go_wp2
  go_loop [3] (fun i => ∃ k : Nat, k ≤ s.size ∧ i = .int .i64 k ∧ Hid (∀ j, j < k → PartAt s.size j (s.data.toList.getD j 0))) (fun i => s.size - (intOf i).toNat)
  case atStart => exact ⟨0, by omega, rfl, Lib.hid (by simp)⟩
  case round =>
    obtain ⟨k, hk, rfl, ha⟩ := hrel
    by_cases hlt : k < s.size
    · have HN := Lib.hid (partAt_iff s.size k (s.data.toList.getD k 0))
      have hn0 := getD_at s k hlt
      have Y : Hid (PartAt s.size k (s.data.toList.getD k 0) → ∀ j, j < k + 1 → PartAt s.size j (s.data.toList.getD j 0)) := Lib.hid (all_below ha.out)
      have NO : Hid (¬ PartAt s.size k (s.data.toList.getD k 0) → R = false) := Lib.hid (by
        intro h
        rw [HR.out, Bool.eq_false_iff]
        intro h2
        have := ((partB_iff _).1 h2).2.2 k (by rw [← HL.out]; exact hlt)
        rw [← HL.out] at this
        exact h this)
      rw [hn0] at HN Y NO
      clear hn0
      generalize hn : s[k].toNat = n at HN
      generalize PartAt s.size k s[k] = C at HN Y NO
      have hend : (k + 1 < s.size) ∨ (k + 1 = s.size ∧ ¬ (k : Int) + 1 < s.size) := by omega
      by_cases hC : (97 ≤ n ∧ n ≤ 122) ∨ (48 ≤ n ∧ n ≤ 57) ∨ (n = 45 ∧ 0 < k ∧ k + 1 < s.size)
      · have C0 := Lib.hid (Y.out (HN.out.2 hC))
        clear NO Y HN
        rcases byte_class n with ⟨h1, h2, q1, q2, q3⟩ | rfl | ⟨h1, h2, q1, q2, q3⟩ | rfl | ⟨h1, h2, q1, q2, q3⟩ | ⟨h1, h2, q1, q2, q3⟩ | rfl | ⟨h1, h2, q1, q2, q3⟩ | ⟨h1, h2, q1, q2, q3⟩ | ⟨h1, h2, q1, q2, q3⟩
        all_goals try (exfalso; omega)
        case inr.inl =>
          obtain ⟨k0, k1⟩ : 0 < k ∧ k + 1 < s.size := by omega
          have kd : decide ((k : Int) + 1 < (s.size : Int)) = true := decide_eq_true (by omega)
          clear hC hend
          go_wp2
          go_round
          case rel => exact ⟨_, by omega, by first | rfl | go_num, C0⟩
          case measure => simp [intOf] <;> omega
        all_goals clear hC hend
        all_goals go_wp2
        all_goals
          go_round
          case rel => exact ⟨_, by omega, by first | rfl | go_num, C0⟩
          case measure => simp [intOf] <;> omega
      · have C0 : Hid (R = false) := Lib.hid (NO.out (fun h => hC (HN.out.1 h)))
        clear NO Y HN
        rcases byte_class n with ⟨h1, h2, q1, q2, q3⟩ | rfl | ⟨h1, h2, q1, q2, q3⟩ | rfl | ⟨h1, h2, q1, q2, q3⟩ | ⟨h1, h2, q1, q2, q3⟩ | rfl | ⟨h1, h2, q1, q2, q3⟩ | ⟨h1, h2, q1, q2, q3⟩ | ⟨h1, h2, q1, q2, q3⟩
        all_goals try (exfalso; omega)
        case inr.inl =>
          rcases Nat.eq_zero_or_pos k with rfl | k0
          · clear hC hend
            go_wp2
            all_goals (go_ret; exact ⟨ret_bool C0.out.symm, rfl⟩)
          · rcases hend with he | ⟨_, he⟩
            · exfalso; omega
            · have kd : decide ((k : Int) + 1 < (s.size : Int)) = false := decide_eq_false he
              clear hC
              go_wp2
              all_goals (go_ret; exact ⟨ret_bool C0.out.symm, rfl⟩)
        all_goals clear hC hend
        all_goals go_wp2
        all_goals first | (go_ret; exact ⟨ret_bool C0.out.symm, rfl⟩) | (rename_i hx; exfalso; simp at hx; omega)
    · have F : Hid (∀ q : Bool, (q = true ↔ 0 < s.size ∧ s.size ≤ 32) → q = R) := Lib.hid (by
        intro q h
        rw [Bool.eq_iff_iff, h, HR.out, partB_iff, ← HL.out]
        constructor
        · rintro ⟨a, b⟩; exact ⟨a, b, fun j hj => ha.out j (by omega)⟩
        · rintro ⟨a, b, _⟩; exact ⟨a, b⟩)
      clear HR ha
      go_wp2
      all_goals
        go_ret
        refine ⟨ret_bool (F.out _ ?_), rfl⟩
        simp
        try omega
end Go.Proofs.YtmflpjgedoopoaaDoor
