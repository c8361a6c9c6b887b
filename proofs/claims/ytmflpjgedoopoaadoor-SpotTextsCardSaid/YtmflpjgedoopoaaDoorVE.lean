/- Plain facts on decimal digits: no program. -/
import Derived.Lib.ParseIntB
import Derived.Lib.ItoaNum
namespace Go.Proofs.YtmflpjgedoopoaaDoor.W
open Go

/-- The number that digits spell. -/
def val (l : List UInt8) : Nat := l.foldl (fun n c => n * 10 + (c.toNat - 48)) 0
def digit (c : UInt8) : Prop := 48 ≤ c.toNat ∧ c.toNat ≤ 57
theorem val_snoc (l : List UInt8) (c : UInt8) : val (l ++ [c]) = val l * 10 + (c.toNat - 48) := by simp [val]
theorem foldl_ge (l : List UInt8) : ∀ a : Nat, a ≤ l.foldl (fun n c => n * 10 + (c.toNat - 48)) a := by
  induction l with
  | nil => intro a; exact Nat.le_refl _
  | cons c l ih => intro a; exact Nat.le_trans (by omega) (ih (a * 10 + (c.toNat - 48)))

theorem parseM (l : List UInt8) : ∀ acc : Nat, (∀ c ∈ l, digit c) → acc ≤ 18446744073709551615 →
    Lib.parseUintM 18446744073709551615 acc l = if l.foldl (fun n c => n * 10 + (c.toNat - 48)) acc ≤ 18446744073709551615 then .ok (l.foldl (fun n c => n * 10 + (c.toNat - 48)) acc) else .range := by
  induction l with
  | nil => intro acc _ ha; simp [Lib.parseUintM, ha]
  | cons c l ih =>
    intro acc hd ha
    have hc := hd c (by simp)
    unfold digit at hc
    have hge := foldl_ge l (acc * 10 + (c.toNat - 48))
    rw [Lib.parseUintM, if_pos hc, List.foldl_cons]
    by_cases h1 : 1844674407370955162 ≤ acc
    · rw [if_pos h1, if_neg (by omega)]
    · rw [if_neg h1]
      by_cases h2 : 18446744073709551615 < acc * 10 + (c.toNat - 48)
      · rw [if_pos h2, if_neg (by omega)]
      · rw [if_neg h2]
        exact ih _ (fun x hx => hd x (by simp [hx])) (by omega)
theorem parse_ok (l : List UInt8) (hn : l ≠ []) (hd : ∀ c ∈ l, digit c) (h : val l ≤ 18446744073709551615) : Lib.parseUintB 64 l = .ok (val l) := by
  unfold Lib.parseUintB
  rw [if_neg hn]
  have := parseM l 0 hd (by omega)
  rw [show (l.foldl (fun n c => n * 10 + (c.toNat - 48)) 0) = val l from rfl, if_pos h] at this
  exact this
theorem parse_range (l : List UInt8) (hn : l ≠ []) (hd : ∀ c ∈ l, digit c) (h : ¬ val l ≤ 18446744073709551615) : Lib.parseUintB 64 l = .range := by
  unfold Lib.parseUintB
  rw [if_neg hn]
  have := parseM l 0 hd (by omega)
  rw [show (l.foldl (fun n c => n * 10 + (c.toNat - 48)) 0) = val l from rfl, if_neg h] at this
  exact this

/-- Of the form that is read: digits, the first no nought but alone. -/
def good (l : List UInt8) : Prop := l ≠ [] ∧ (∀ c ∈ l, digit c) ∧ (l.head? = some 48 → l.length = 1)

theorem toNat48 (d : Nat) (h : d < 10) : (UInt8.ofNat (48 + d)).toNat = 48 + d := by
  rw [UInt8.toNat_ofNat', Nat.mod_eq_of_lt (by omega)]
theorem dec_small (u : Nat) (h : u < 10) : Lib.decDigits u = [UInt8.ofNat (48 + u)] := by rw [Lib.decDigits, dif_pos h]
theorem dec_big (u : Nat) (h : ¬ u < 10) : Lib.decDigits u = Lib.decDigits (u / 10) ++ [UInt8.ofNat (48 + u % 10)] := by rw [Lib.decDigits, dif_neg h]

theorem dec_good : ∀ u : Nat, good (Lib.decDigits u) ∧ val (Lib.decDigits u) = u ∧ (1 ≤ u → (Lib.decDigits u).head? ≠ some 48) := by
  intro u
  induction u using Nat.strongRecOn with
  | _ u ih =>
    by_cases h : u < 10
    · rw [dec_small u h]
      have e := toNat48 u h
      refine ⟨⟨by simp, ?_, by simp⟩, ?_, ?_⟩
      · intro c hc
        simp only [List.mem_singleton] at hc
        subst hc
        unfold digit
        omega
      · show val ([] ++ [UInt8.ofNat (48 + u)]) = u
        rw [val_snoc, e]; simp [val]
      · intro h1 h2
        simp only [List.head?_cons, Option.some.injEq] at h2
        rw [h2] at e
        have : (48 : UInt8).toNat = 48 := rfl
        omega
    · obtain ⟨⟨g1, g2, g3⟩, v, hh⟩ := ih (u / 10) (by omega)
      have hh := hh (by omega)
      rw [dec_big u h]
      have e := toNat48 (u % 10) (by omega)
      have hhead : (Lib.decDigits (u / 10) ++ [UInt8.ofNat (48 + u % 10)]).head? = (Lib.decDigits (u / 10)).head? := by
        cases hl : Lib.decDigits (u / 10) with
        | nil => exact absurd hl g1
        | cons a l => rfl
      refine ⟨⟨by simp, ?_, ?_⟩, ?_, ?_⟩
      · intro c hc
        rw [List.mem_append] at hc
        rcases hc with hc | hc
        · exact g2 c hc
        · simp only [List.mem_singleton] at hc
          subst hc
          unfold digit
          omega
      · intro h48
        rw [hhead] at h48
        exact absurd h48 hh
      · rw [val_snoc, v, e]; omega
      · intro _
        rw [hhead]; exact hh

/-- Whatever is read is written so. -/
theorem dec_val : ∀ (n : Nat) (l : List UInt8), l.length = n → good l → Lib.decDigits (val l) = l := by
  intro n
  induction n with
  | zero => intro l hl hg; exact absurd (List.eq_nil_of_length_eq_zero hl) hg.1
  | succ n ih =>
    intro l hl hg
    rcases List.eq_nil_or_concat l with rfl | ⟨m, c, rfl⟩
    · simp at hl
    · rw [List.concat_eq_append] at *
      have hml : m.length = n := by simpa using hl
      obtain ⟨-, g2, g3⟩ := hg
      have hc := g2 c (by simp)
      unfold digit at hc
      have ec : ∀ d : Nat, d = c.toNat - 48 → UInt8.ofNat (48 + d) = c := by
        intro d hd
        rw [← UInt8.toNat_inj, UInt8.toNat_ofNat', Nat.mod_eq_of_lt (by omega)]; omega
      rw [val_snoc]
      by_cases hm : m = []
      · subst hm
        rw [show val [] = 0 from rfl, Nat.zero_mul, Nat.zero_add, dec_small _ (by omega), ec _ rfl]
        rfl
      · have hgm : good m := by
          refine ⟨hm, fun x hx => g2 x (by simp [hx]), ?_⟩
          intro h48
          exfalso
          have : (m ++ [c]).head? = m.head? := by
            cases m with
            | nil => exact absurd rfl hm
            | cons a l => rfl
          have := g3 (this.trans h48)
          cases m with
          | nil => exact hm rfl
          | cons a l => simp at this
        have hv := ih m hml hgm
        have hv1 : 1 ≤ val m := by
          rcases Nat.eq_zero_or_pos (val m) with h0 | h0
          · rw [h0, dec_small 0 (by omega)] at hv
            have h48 : m.head? = some 48 := by rw [← hv]; rfl
            have : (m ++ [c]).head? = some 48 := by rw [← hv]; rfl
            have := g3 this
            rw [← hv] at this
            simp at this
          · exact h0
        rw [dec_big _ (by omega), show (val m * 10 + (c.toNat - 48)) / 10 = val m by omega, hv, ec _ (by omega)]
end Go.Proofs.YtmflpjgedoopoaaDoor.W
