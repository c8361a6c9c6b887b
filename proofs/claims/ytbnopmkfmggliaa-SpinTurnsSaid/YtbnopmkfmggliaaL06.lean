/- Fairness of turns, plainly: in as many turns as the weights' sum each is chosen as often as its weight says. -/
import Derived.Test.YtbnopmkfmggliaaL05
set_option linter.unusedVariables false
set_option linter.unusedSimpArgs false
namespace Go.Proofs.Ytbnopmkfmggliaa
open Go.RowKit
open Fl

theorem tot_congr {f g : Nat → Int} : ∀ {n : Nat}, (∀ i, i < n → f i = g i) → tot f n = tot g n
  | 0, _ => rfl
  | n + 1, h => by rw [tot, tot, tot_congr (fun i hi => h i (by omega)), h n (by omega)]
theorem tot_add (f g : Nat → Int) : ∀ n : Nat, tot (fun i => f i + g i) n = tot f n + tot g n
  | 0 => rfl
  | n + 1 => by rw [tot, tot, tot, tot_add f g n]; omega
theorem tot_zero : ∀ n : Nat, tot (fun _ => 0) n = 0
  | 0 => rfl
  | n + 1 => by rw [tot, tot_zero n]; rfl
theorem tot_le {f g : Nat → Int} : ∀ {n : Nat}, (∀ i, i < n → f i ≤ g i) → tot f n ≤ tot g n
  | 0, _ => Int.le_refl _
  | n + 1, h => by
    have h1 := tot_le (n := n) (fun i hi => h i (by omega))
    have h2 := h n (by omega)
    rw [tot, tot]; omega
theorem tot_eq {f g : Nat → Int} : ∀ {n : Nat}, (∀ i, i < n → f i ≤ g i) → tot f n = tot g n → ∀ i, i < n → f i = g i
  | 0, _, _, i, hi => absurd hi (by omega)
  | n + 1, h, e, i, hi => by
    have h1 := tot_le (n := n) (fun i hi => h i (by omega))
    have h2 := h n (by omega)
    rw [tot, tot] at e
    by_cases hn : i = n
    · subst hn; omega
    · exact tot_eq (n := n) (fun i hi => h i (by omega)) (by omega) i (by omega)
theorem tot_upd (f : Nat → Int) (j : Nat) (x : Int) : ∀ n : Nat, tot (upd f j x) n = if j < n then tot f n - f j + x else tot f n
  | 0 => by rw [if_neg (by omega)]; rfl
  | n + 1 => by
    rw [tot, tot, tot_upd f j x n]
    by_cases h : j < n
    · rw [if_pos h, if_pos (by omega), upd_other _ _ (by omega)]; omega
    · rw [if_neg h]
      by_cases e : j = n
      · subst e; rw [if_pos (by omega), upd_same]; omega
      · rw [if_neg (by omega), upd_other _ _ (by omega)]
theorem tC_none {up : Nat → Bool} {h u : Nat → Int} : ∀ {k : Nat}, tC up h u k = none → ∀ i, i < k → up i = false
  | 0, _, i, hi => absurd hi (by omega)
  | k + 1, e, i, hi => by
    unfold tC at e
    by_cases hk : up k = true
    · rw [if_pos hk] at e
      cases hc : tC up h u k with
      | none => rw [hc] at e; cases e
      | some m =>
        rw [hc] at e
        simp only at e
        split at e <;> cases e
    · rw [if_neg hk] at e
      by_cases hik : i = k
      · subst hik; simpa using hk
      · exact tC_none e i (by omega)
theorem tC_max {up : Nat → Bool} {h u : Nat → Int} : ∀ {k j : Nat}, tC up h u k = some j → ∀ i, i < k → up i = true → h i + u i ≤ h j + u j
  | 0, j, e, i, hi, _ => absurd hi (by omega)
  | k + 1, j, e, i, hi, hu => by
    unfold tC at e
    by_cases hk : up k = true
    · rw [if_pos hk] at e
      cases hc : tC up h u k with
      | none =>
        rw [hc] at e
        simp only [Option.some.injEq] at e
        subst e
        by_cases hik : i = k
        · subst hik; omega
        · have := tC_none hc i (by omega)
          rw [hu] at this; cases this
      | some m =>
        rw [hc] at e
        simp only at e
        have ih := tC_max hc
        by_cases hl : h m + u m < h k + u k
        · rw [if_pos hl] at e; simp only [Option.some.injEq] at e; subst e
          by_cases hik : i = k
          · subst hik; omega
          · have := ih i (by omega) hu; omega
        · rw [if_neg hl] at e; simp only [Option.some.injEq] at e; subst e
          by_cases hik : i = k
          · subst hik; omega
          · exact ih i (by omega) hu
    · rw [if_neg hk] at e
      by_cases hik : i = k
      · subst hik; exact absurd hu hk
      · exact tC_max e i (by omega) hu
theorem tS_true {up : Nat → Bool} (hup : ∀ i, up i = true) (u : Nat → Int) : ∀ k : Nat, tS up u k = tot u k
  | 0 => rfl
  | k + 1 => by rw [tS, if_pos (hup k), tS_true hup u k]; rfl
/-- What holds behind t turns of a round. -/
structure Fr (u : Nat → Int) (n : Nat) (t : Nat) (h c : Nat → Int) : Prop where
  eq : ∀ i, i < n → h i = t * u i - tot u n * c i
  lo : ∀ i, i < n → -tot u n < h i
  s : tot h n = 0
  cs : tot c n = t
  z : ∀ i, n ≤ i → h i = 0
  c0 : ∀ i, 0 ≤ c i
theorem Fr.start {u : Nat → Int} {n : Nat} (hn : 0 < n) (hu : ∀ i, i < n → 1 ≤ u i) : Fr u n 0 Zf Zf := by
  have hW : 0 < tot u n := by
    have h1 := tot_le (f := fun i => if i = 0 then 1 else 0) (g := u) (n := n) (fun i hi => by have := hu i hi; split <;> omega)
    have h2 : (1 : Int) ≤ tot (fun i => if i = 0 then 1 else 0) n := by
      have := tot_upd Zf 0 1 n
      rw [if_pos hn, tot_zero] at this
      have e : tot (fun i => if i = 0 then 1 else 0) n = tot (upd Zf 0 1) n := rfl
      rw [e, this]
      show (1 : Int) ≤ 0 - 0 + 1
      omega
    omega
  exact ⟨fun i _ => by show (0 : Int) = ((0 : Nat) : Int) * u i - tot u n * 0; simp, fun i _ => by show _ < (0 : Int); omega, tot_zero n, tot_zero n, fun _ _ => rfl, fun _ => Int.le_refl _⟩
theorem Fr.start' {u : Nat → Int} {n : Nat} (hu : ∀ i, i < n → 1 ≤ u i) : Fr u n 0 Zf Zf := by
  by_cases hn : 0 < n
  · exact Fr.start hn hu
  · obtain rfl : n = 0 := by omega
    exact ⟨fun i hi => absurd hi (by omega), fun i hi => absurd hi (by omega), rfl, rfl, fun _ _ => rfl, fun _ => Int.le_refl _⟩
theorem Fr.chosen {u : Nat → Int} {n t : Nat} {h c : Nat → Int} {up : Nat → Bool} (hn : 0 < n) (hup : ∀ i, up i = true) : ∃ j, tC up h u n = some j ∧ j < n := by
  cases hc : tC up h u n with
  | none => have := tC_none hc 0 hn; rw [hup] at this; cases this
  | some j => exact ⟨j, rfl, (tC_lt hc).1⟩
theorem nH_at {up : Nat → Bool} (hup : ∀ i, up i = true) {h u : Nat → Int} {n j : Nat} (hc : tC up h u n = some j) (i : Nat) : nH up h u n i = if i = j then h j + u j - tot u n else if i < n then h i + u i else h i := by
  unfold nH
  rw [hc]
  simp only [tS_true hup]
  unfold upd tH
  by_cases e : i = j
  · rw [if_pos e, if_pos e]
  · rw [if_neg e, if_neg e]
    by_cases h1 : i < n
    · rw [if_pos ⟨h1, hup i⟩, if_pos h1]
    · rw [if_neg (fun h => h1 h.1), if_neg h1]
theorem Fr.step {u : Nat → Int} {n t j : Nat} {h c : Nat → Int} {up : Nat → Bool} (hup : ∀ i, up i = true) (hu : ∀ i, i < n → 1 ≤ u i) (F : Fr u n t h c) (hc : tC up h u n = some j) : Fr u n (t + 1) (nH up h u n) (upd c j (c j + 1)) := by
  have hj := (tC_lt hc).1
  have hat := nH_at hup hc
  have hW : tot (fun i => h i + u i) n = tot u n := by rw [tot_add, F.s]; omega
  have hpos : 0 < h j + u j := by
    have hmax := tC_max hc
    by_cases hle : h j + u j ≤ 0
    · have h1 := tot_le (f := fun i => h i + u i) (g := Zf) (n := n) (fun i hi => by have := hmax i hi (hup i); show h i + u i ≤ 0; omega)
      rw [hW, tot_zero] at h1
      have h2 := F.lo j hj
      have h3 := hu j hj
      have h4 : 0 < tot u n := by
        have h5 := tot_le (f := upd Zf j 1) (g := u) (n := n) (fun i hi => by have := hu i hi; unfold upd; split <;> (try (show (0 : Int) ≤ u i)) <;> omega)
        have h6 := tot_upd Zf j 1 n
        rw [if_pos hj, tot_zero] at h6
        have h7 : Zf j = 0 := rfl
        omega
      omega
    · omega
  refine ⟨fun i hi => ?_, fun i hi => ?_, ?_, ?_, fun i hi => ?_, fun i => ?_⟩
  · rw [hat]
    by_cases e : i = j
    · subst e
      rw [if_pos rfl, upd_same, F.eq i hi]
      push_cast
      simp only [Int.add_mul, Int.mul_add]
      omega
    · rw [if_neg e, if_pos hi, upd_other _ _ e, F.eq i hi]
      push_cast
      simp only [Int.add_mul]
      omega
  · rw [hat]
    by_cases e : i = j
    · subst e; rw [if_pos rfl]; omega
    · rw [if_neg e, if_pos hi]
      have := F.lo i hi
      have := hu i hi
      omega
  · have e : tot (nH up h u n) n = tot (upd (fun i => h i + u i) j (h j + u j - tot u n)) n := tot_congr (fun i hi => by
      rw [hat]
      unfold upd
      by_cases e : i = j
      · rw [if_pos e, if_pos e]
      · rw [if_neg e, if_neg e, if_pos hi])
    rw [e, tot_upd, if_pos hj, hW]
    omega
  · rw [tot_upd, if_pos hj, F.cs]; push_cast; omega
  · rw [hat, if_neg (by omega), if_neg (by omega)]; exact F.z i hi
  · unfold upd
    split
    · have := F.c0 j; omega
    · exact F.c0 i
/-- In as many turns as the weights' sum each is chosen as often as its weight says, and all is as it was. -/
theorem Fr.round {u : Nat → Int} {n t : Nat} {h c : Nat → Int} (hu : ∀ i, i < n → 1 ≤ u i) (F : Fr u n t h c) (ht : (t : Int) = tot u n) : (∀ i, i < n → c i = u i) ∧ ∀ i, h i = 0 := by
  have hle : ∀ i, i < n → c i ≤ u i := fun i hi => by
    have h1 := F.eq i hi
    have h2 := F.lo i hi
    rw [ht, ← Int.mul_sub] at h1
    rw [h1] at h2
    have hW : 0 < tot u n := by
      rcases Int.lt_or_le 0 (tot u n) with h | h
      · exact h
      · have := tot_le (f := Zf) (g := u) (n := n) (fun i hi => by have := hu i hi; show (0 : Int) ≤ u i; omega)
        rw [tot_zero] at this
        have e : tot u n = 0 := by omega
        rw [e, Int.zero_mul] at h2
        omega
    rcases Int.lt_or_le (u i) (c i) with h | h
    · have h3 : u i - c i ≤ -1 := by omega
      have h4 := Int.mul_le_mul_of_nonneg_left h3 (Int.le_of_lt hW)
      omega
    · exact h
  have heq := tot_eq hle (by rw [F.cs, ht])
  refine ⟨heq, fun i => ?_⟩
  by_cases hi : i < n
  · rw [F.eq i hi, heq i hi, ht]; omega
  · exact F.z i (by omega)
theorem Fr.bound {u : Nat → Int} {n t : Nat} {h c : Nat → Int} (hn : n ≤ 8) (hu : ∀ i, 0 ≤ u i ∧ u i ≤ 100) (ht : t ≤ 800) (F : Fr u n t h c) : ∀ i, -1000000000 ≤ h i ∧ h i ≤ 1000000000 := by
  intro i
  by_cases hi : i < n
  · have h1 := F.eq i hi
    have h2 := F.lo i hi
    have h3 := tot_le (f := u) (g := fun _ => 100) (n := n) (fun i _ => (hu i).2)
    have h4 : tot (fun _ => 100) n ≤ 800 := by
      have : tot (fun _ => 100) n = 100 * (n : Int) := by
        clear h1 h2 h3 F hi
        induction n with
        | zero => rfl
        | succ n ih => rw [tot, ih (by omega)]; push_cast; omega
      omega
    have h5 : (t : Int) * u i ≤ 800 * 100 := Int.mul_le_mul (by omega) (hu i).2 (hu i).1 (by omega)
    have h6 : 0 ≤ tot u n * c i := Int.mul_nonneg (by
      have := tot_le (f := Zf) (g := u) (n := n) (fun i _ => (hu i).1)
      rw [tot_zero] at this; exact this) (F.c0 i)
    omega
  · rw [F.z i (by omega)]; omega
end Go.Proofs.Ytbnopmkfmggliaa
