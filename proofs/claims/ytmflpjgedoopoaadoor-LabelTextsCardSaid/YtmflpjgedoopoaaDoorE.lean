/- label.Path and its answer by definition. -/
import Derived.Test.YtmflpjgedoopoaaDoorC
namespace Go.Proofs.YtmflpjgedoopoaaDoor
open Go.RowKit

theorem prefix_head (l : List UInt8) : Lib.hasPrefix l [47] = (l.headD 0 == 47) := by
  cases l with
  | nil => rfl
  | cons a t => unfold Lib.hasPrefix; rw [Bool.eq_iff_iff]; simp [List.isPrefixOf]; exact eq_comm
theorem contains_two (l : List UInt8) : Lib.contains l [47, 47] = twoB l := by
  unfold Lib.contains
  rw [Bool.eq_iff_iff, decide_eq_true_eq]
  induction l with
  | nil => simp [Lib.index, twoB]
  | cons a t ih =>
    have hge := Lib.index_ge t [47, 47]
    have step : 0 ≤ Lib.index (a :: t) [47, 47] ↔ ([47, 47].isPrefixOf (a :: t) = true ∨ 0 ≤ Lib.index t [47, 47]) := by
      have e : Lib.index (a :: t) [47, 47] = if ([47, 47] : List UInt8).isPrefixOf (a :: t) then 0 else if Lib.index t [47, 47] == -1 then -1 else Lib.index t [47, 47] + 1 := by rw [Lib.index]
      rw [e]
      by_cases h : ([47, 47] : List UInt8).isPrefixOf (a :: t) = true
      · rw [if_pos h]; simp [h]
      · rw [if_neg h]
        by_cases hm : Lib.index t [47, 47] = -1
        · rw [if_pos (by simpa using hm)]; simp [h, hm]
        · rw [if_neg (by simpa using hm)]; simp only [h, Bool.false_eq_true, false_or]; omega
    rw [step, ih]
    cases t with
    | nil => simp [twoB, List.isPrefixOf]
    | cons b u => simp only [twoB, List.isPrefixOf, Bool.or_eq_true, Bool.and_eq_true, beq_iff_eq, and_true]; rw [eq_comm (a := a), eq_comm (a := b)]
theorem twoB_iff (l : List UInt8) : twoB l = false ↔ ∀ j, j + 1 < l.length → ¬ (l.getD j 0 = 47 ∧ l.getD (j + 1) 0 = 47) := by
  induction l with
  | nil => simp [twoB]
  | cons a t ih =>
    cases t with
    | nil => simp [twoB]
    | cons b u =>
      unfold twoB
      rw [Bool.or_eq_false_iff, ih]
      constructor
      · rintro ⟨h1, h2⟩ j hj
        cases j with
        | zero => simpa using h1
        | succ j => exact h2 j (by simpa using hj)
      · intro h
        refine ⟨by simpa using h 0 (by simp), fun j hj => h (j + 1) (by simpa using hj)⟩

/-- At 'form'. -/
def PathJ (R : Nat) (w : World) (a' : Act) (w' : World) : Prop := R = 4 ∧ w = w' ∧ ∃ (u0 u1 u2 u3 u4 u5 u6 u7 u8 u9 u10 u11 u12 u13 u14 u15 u16 u17 : Value), a' = { tmps := #[u0, u1, u2, u3, u4, u5, u6, u7, u8, u9, u10, u11, u12, u13, u14, u15, u16, u17], defers := [] }

theorem path_any (s : ByteArray) (m : Int) (w : World) (hs : s.size ≤ 4294967280) (hm : w.cell? ⟨0, 0, none⟩ = some (.int .i64 m)) :
    Calls Tryd.prog 17 #[.string s] w fun e w' => e = .returned (.int .i64 (pathN s.data.toList)) ∧ w = w' := by
  have HL := Lib.hid (Lib.size_eq s)
  have K1 := Lib.hid ((Tryd.strings_HasPrefix s ⟨#[47]⟩ w).mono fun _ _ h => (⟨h.1, h.2.symm⟩ : _ ∧ w = _))
  have K2 := Lib.hid ((Tryd.strings_Contains s ⟨#[47, 47]⟩ m w (by omega) hm).mono fun _ _ h => (⟨h.1, h.2.symm⟩ : _ ∧ w = _))
  have K3 := Lib.hid (each_seen s w hs)
  rw [show (⟨#[47]⟩ : ByteArray).data.toList = [47] from rfl, prefix_head] at K1
  rw [show (⟨#[47, 47]⟩ : ByteArray).data.toList = [47, 47] from rfl, contains_two] at K2
  clear hm
  obtain ⟨R, hR⟩ : ∃ R, R = pathN s.data.toList := ⟨_, rfl⟩
  rw [← hR]
  unfold pathN at hR
  rw [← HL.out] at hR
  generalize (s.data.toList.headD 0 == 47) = v1 at K1 hR
  generalize twoB s.data.toList = v2 at K2 hR
  generalize s.data.toList.all seenB = v3 at K3 hR
  have HR := Lib.hid hR
  clear hR
  cases v1 <;> cases v2 <;> cases v3
  all_goals
    go_enter Tryd.func17, Tryd.ntmps17
    go_wp2
    refine wp_scope_jumps 0 (PathJ R w) (fun _ _ => 0) rfl ?_ ?_
    · go_wp2_with (first
        | (go_at_call 48; ((with_reducible refine (K1.out).mono ?_); rintro e w1 ⟨rfl, rfl⟩))
        | (go_at_call 49; ((with_reducible refine (K2.out).mono ?_); rintro e w1 ⟨rfl, rfl⟩))
        | (go_at_call 42; ((with_reducible refine (K3.out).mono ?_); rintro e w1 ⟨rfl, rfl⟩)))
      all_goals first
        | (go_step3; exact ⟨rfl, HR.out, rfl, _, _, _, _, _, _, _, _, _, _, _, _, _, _, _, _, _, _, rfl⟩)
        | (simp only [Exit.jump]; go_ret; refine ⟨ret_int ?_, rfl⟩; rw [HR.out]; simp; try (split <;> omega))
    · rintro a' w' ⟨hr, rfl, u0, u1, u2, u3, u4, u5, u6, u7, u8, u9, u10, u11, u12, u13, u14, u15, u16, u17, rfl⟩
      have HR4 := Lib.hid hr
      clear hr
      go_wp2
      simp only [Exit.jump]
      go_ret
      exact ⟨ret_int (by rw [HR4.out]; rfl), rfl⟩

def PathAt (j : Nat) (p c : UInt8) : Prop := seenB c = true ∧ ¬ (0 < j ∧ c = 47 ∧ p = 47)
theorem pathAt_iff (j : Nat) (p c : UInt8) : PathAt j p c ↔ (33 ≤ c.toNat ∧ c.toNat ≤ 126) ∧ ¬ (0 < j ∧ c.toNat = 47 ∧ p.toNat = 47) := by
  unfold PathAt seenB
  simp [byte_eq]
theorem pathN_fine (l : List UInt8) : (l.headD 0 == 47 && !twoB l && l.all seenB) = true ↔ l.headD 0 = 47 ∧ ∀ j, j < l.length → PathAt j (l.getD (j - 1) 0) (l.getD j 0) := by
  simp only [Bool.and_eq_true, beq_iff_eq, Bool.not_eq_true', twoB_iff, List.all_eq_true]
  constructor
  · rintro ⟨⟨h1, h2⟩, h3⟩
    refine ⟨h1, fun j hj => ⟨h3 _ (getD_mem hj), ?_⟩⟩
    rintro ⟨a, b, c⟩
    have := h2 (j - 1) (by omega)
    rw [show j - 1 + 1 = j by omega] at this
    exact this ⟨c, b⟩
  · rintro ⟨h1, h2⟩
    refine ⟨⟨h1, fun j hj h => ?_⟩, fun x hx => ?_⟩
    · exact (h2 (j + 1) hj).2 ⟨by omega, h.2, by simpa using h.1⟩
    · obtain ⟨j, hj, rfl⟩ := mem_getD hx
      exact (h2 j hj).1

theorem size_pos_ne {s : ByteArray} (h : 0 < s.size) : ((s.size : Int) == 0) = false ∧ ¬ s = ByteArray.empty := by
  refine ⟨neq_int (m := 0) (by omega), ?_⟩
  rintro rfl
  exact absurd h (by decide)
theorem size_zero {s : ByteArray} (h : ¬ 0 < s.size) : s = ByteArray.empty := by
  obtain ⟨⟨l⟩⟩ := s
  cases l with
  | nil => rfl
  | cons a t => exact absurd (Nat.succ_pos _) h
theorem path_class (n : Nat) : (0 ≤ n ∧ n ≤ 32 ∧ Apart n) ∨ (33 ≤ n ∧ n ≤ 126 ∧ Apart n ∧ n ≠ 47) ∨ n = 47 ∨ n = 45 ∨ n = 95 ∨ (127 ≤ n ∧ 0 ≤ n ∧ Apart n) := by
  by_cases h1 : n = 45
  · simp [h1]
  by_cases h2 : n = 95
  · simp [h2]
  by_cases h3 : n = 47
  · simp [h3]
  have := apart_of h1 h2 h3
  simp only [this, h3, and_true, true_and, ne_eq, not_false_eq_true]
  omega

set_option maxHeartbeats 4000000 in
theorem rpath_any (s : ByteArray) (w : World) (hs : s.size ≤ 4294967280) :
    Calls Tryd.prog 18 #[.string s] w fun e w' => e = .returned (.int .i64 (pathN s.data.toList)) ∧ w = w' := by
  have HL := Lib.hid (Lib.size_eq s)
  obtain ⟨R, hR⟩ : ∃ R, R = pathN s.data.toList := ⟨_, rfl⟩
  rw [← hR]
  unfold pathN at hR
  have hf := pathN_fine s.data.toList
  rw [← HL.out] at hR hf
  generalize (s.data.toList.headD 0 == 47 && !twoB s.data.toList && s.data.toList.all seenB) = V at hR hf
  have HV := Lib.hid hf
  have HR := Lib.hid hR
  clear hR hf
  by_cases hz : 0 < s.size
  · have hh := head_get s hz
    rw [hh] at HV
    obtain ⟨z1, z2⟩ := size_pos_ne hz
    by_cases h47 : s[0] = 47
    · have h47n : s[0].toNat = 47 := by rw [h47]; rfl
      have HV2 : Hid (V = true ↔ ∀ j, j < s.size → PathAt j (s.data.toList.getD (j - 1) 0) (s.data.toList.getD j 0)) := Lib.hid (by rw [HV.out]; exact ⟨fun h => h.2, fun h => ⟨h47, h⟩⟩)
      clear HV h47 hh
      have b47 : ((s[0].toNat : Int) != 47) = false := by rw [h47n]; rfl
      go_enter Tryd.func18, Tryd.ntmps18
      go_wp2
      go_loop [3] (fun i => ∃ k : Nat, k ≤ s.size ∧ i = .int .i64 k ∧ Hid (∀ j, j < k → PathAt j (s.data.toList.getD (j - 1) 0) (s.data.toList.getD j 0))) (fun i => s.size - (intOf i).toNat)
      case atStart => exact ⟨0, by omega, rfl, Lib.hid (by simp)⟩
      case round =>
        obtain ⟨k, hk, rfl, ha⟩ := hrel
        by_cases hlt : k < s.size
        · have Y : Hid (PathAt k (s.data.toList.getD (k - 1) 0) (s.data.toList.getD k 0) → ∀ j, j < k + 1 → PathAt j (s.data.toList.getD (j - 1) 0) (s.data.toList.getD j 0)) := Lib.hid (all_below (P := fun j => PathAt j (s.data.toList.getD (j - 1) 0) (s.data.toList.getD j 0)) ha.out)
          have NO : Hid (¬ PathAt k (s.data.toList.getD (k - 1) 0) (s.data.toList.getD k 0) → R = 4) := Lib.hid (by
            intro h
            rw [HR.out, if_neg]
            intro h2
            exact h (HV2.out.1 h2 k hlt))
          have hn0 := getD_at s k hlt
          rcases Nat.eq_zero_or_pos k with rfl | k0
          · have HN := pathAt_iff 0 (s.data.toList.getD (0 - 1) 0) (s.data.toList.getD 0 0)
            rw [hn0, h47n] at HN
            have C0 := Lib.hid (Y.out (by rw [hn0]; exact HN.2 ⟨by omega, by omega⟩))
            clear hn0 Y NO HN
            go_wp2
            go_round
            case rel => exact ⟨1, by omega, rfl, C0⟩
            case measure => simp [intOf] <;> omega
          · obtain ⟨t, rfl⟩ : ∃ t, k = t + 1 := ⟨k - 1, by omega⟩
            have hn1 := getD_at s t (by omega)
            rw [Nat.add_sub_cancel, hn0, hn1] at Y NO
            have HN := Lib.hid (pathAt_iff (t + 1) s[t] s[t + 1])
            clear hn0 hn1
            generalize PathAt (t + 1) s[t] s[t + 1] = C at HN Y NO
            generalize hn : s[t + 1].toNat = n at HN
            generalize hp : s[t].toNat = p at HN
            have ec : ((t : Int) + 1) - 1 = t := by omega
            by_cases hC : (33 ≤ n ∧ n ≤ 126) ∧ ¬ (0 < t + 1 ∧ n = 47 ∧ p = 47)
            · have C0 := Lib.hid (Y.out (HN.out.2 hC))
              clear Y NO HN
              rcases path_class n with ⟨h1, h2, q1, q2, q3⟩ | ⟨h1, h2, ⟨q1, q2, q3⟩, q4⟩ | rfl | rfl | rfl | ⟨h1, h2, q1, q2, q3⟩
              all_goals try (exfalso; omega)
              case inr.inr.inl =>
                have qp : ((p : Int) == 47) = false := neq_int (m := 47) (by omega)
                clear hC
                go_wp2
                go_round
                case rel => exact ⟨_, by omega, by first | rfl | go_num, C0⟩
                case measure => simp [intOf] <;> omega
              all_goals clear hC
              all_goals go_wp2
              all_goals
                go_round
                case rel => exact ⟨_, by omega, by first | rfl | go_num, C0⟩
                case measure => simp [intOf] <;> omega
            · have C0 : Hid (R = 4) := Lib.hid (NO.out (fun h => hC (HN.out.1 h)))
              clear Y NO HN
              rcases path_class n with ⟨h1, h2, q1, q2, q3⟩ | ⟨h1, h2, ⟨q1, q2, q3⟩, q4⟩ | rfl | rfl | rfl | ⟨h1, h2, q1, q2, q3⟩
              all_goals try (exfalso; omega)
              case inr.inr.inl =>
                obtain rfl : p = 47 := by omega
                clear hC
                go_wp2
                go_ret
                exact ⟨ret_int (by rw [C0.out]; rfl), rfl⟩
              all_goals clear hC
              all_goals go_wp2
              all_goals first | (go_ret; exact ⟨ret_int (by rw [C0.out]; rfl), rfl⟩) | (exfalso; omega)
        · have F : Hid (R = if 128 < s.size then 5 else 0) := Lib.hid (by
            rw [HR.out, if_pos (HV2.out.2 fun j hj => ha.out j (by omega))])
          clear HV2 HR ha
          go_wp2
          all_goals
            go_ret
            exact ⟨ret_int (by rw [F.out]; split <;> omega), rfl⟩
    · have h47n : ((s[0].toNat : Int) == 47) = false := neq_int (m := 47) (fun h => h47 (by rw [byte_eq]; exact h))
      have H4 : Hid (R = 4) := Lib.hid (by
        rw [HR.out, if_neg]
        intro h
        exact h47 (HV.out.1 h).1)
      have b47 : ((s[0].toNat : Int) != 47) = true := by unfold bne; rw [h47n]; rfl
      clear HV h47 hh HR
      go_enter Tryd.func18, Tryd.ntmps18
      go_wp2
      go_ret
      exact ⟨ret_int (by rw [H4.out]; rfl), rfl⟩
  · have H4 : Hid (R = 4) := Lib.hid (by
      rw [HR.out, if_neg]
      intro h
      have := (HV.out.1 h).1
      have e : s.data.toList = [] := List.eq_nil_of_length_eq_zero (by rw [← HL.out]; omega)
      rw [e] at this
      simp at this)
    clear HV HR
    obtain rfl := size_zero hz
    go_enter Tryd.func18, Tryd.ntmps18
    go_wp2
    go_ret
    exact ⟨ret_int (by rw [H4.out]; rfl), rfl⟩
end Go.Proofs.YtmflpjgedoopoaaDoor
