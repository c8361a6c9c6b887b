/- Places compared, plain; the places' '=='. -/
import Derived.Test.YtmflpjgedoopoaaDoorSI
namespace Go.Proofs.YtmflpjgedoopoaaDoor
open Go.RowKit

theorem u8_tri (x y : UInt8) : x < y ∨ x = y ∨ y < x := by
  rcases Nat.lt_trichotomy x.toNat y.toNat with h | h | h
  · exact Or.inl h
  · exact Or.inr (Or.inl (UInt8.toNat_inj.1 h))
  · exact Or.inr (Or.inr h)
theorem u8_asymm {x y : UInt8} (h : x < y) : ¬ y < x := fun h2 => by
  have a : x.toNat < y.toNat := h
  have b : y.toNat < x.toNat := h2
  omega
theorem u8_irrefl (x : UInt8) : ¬ x < x := fun h => by
  have a : x.toNat < x.toNat := h
  omega
theorem u8_trans {x y z : UInt8} (h : x < y) (h2 : y < z) : x < z := by
  have a : x.toNat < y.toNat := h
  have b : y.toNat < z.toNat := h2
  exact Nat.lt_trans a b
theorem cb_range : ∀ l m : List UInt8, Lib.compareBytes l m = -1 ∨ Lib.compareBytes l m = 0 ∨ Lib.compareBytes l m = 1
  | [], [] => Or.inr (Or.inl rfl)
  | [], _ :: _ => Or.inl rfl
  | _ :: _, [] => Or.inr (Or.inr rfl)
  | a :: as1, b :: bs => by
    unfold Lib.compareBytes
    split
    · exact Or.inl rfl
    · split
      · exact Or.inr (Or.inr rfl)
      · exact cb_range as1 bs
theorem cb_anti : ∀ l m : List UInt8, Lib.compareBytes m l = - Lib.compareBytes l m
  | [], [] => rfl
  | [], _ :: _ => rfl
  | _ :: _, [] => rfl
  | a :: as1, b :: bs => by
    unfold Lib.compareBytes
    rcases u8_tri a b with h | h | h
    · rw [if_neg (u8_asymm h), if_pos h, if_pos h]; rfl
    · subst h; simp only [if_neg (u8_irrefl a)]; exact cb_anti as1 bs
    · simp only [if_neg (u8_asymm h), if_pos h]
theorem cb_zero : ∀ l m : List UInt8, Lib.compareBytes l m = 0 ↔ l = m
  | [], [] => by simp [Lib.compareBytes]
  | [], _ :: _ => by simp [Lib.compareBytes]
  | _ :: _, [] => by simp [Lib.compareBytes]
  | a :: as1, b :: bs => by
    unfold Lib.compareBytes
    rcases u8_tri a b with h | h | h
    · rw [if_pos h]
      constructor
      · intro h; cases h
      · intro e; simp at e; rw [e.1] at h; exact absurd h (u8_irrefl _)
    · subst h; simp only [if_neg (u8_irrefl a)]
      rw [cb_zero as1 bs]; simp
    · rw [if_neg (u8_asymm h), if_pos h]
      constructor
      · intro h; cases h
      · intro e; simp at e; rw [e.1] at h; exact absurd h (u8_irrefl _)
theorem cb_trans : ∀ l m n : List UInt8, Lib.compareBytes l m ≤ 0 → Lib.compareBytes m n ≤ 0 → Lib.compareBytes l n ≤ 0
  | [], _, [] => fun _ _ => by simp [Lib.compareBytes]
  | [], _, _ :: _ => fun _ _ => by simp [Lib.compareBytes]
  | _ :: _, [], _ => fun h _ => by simp [Lib.compareBytes] at h
  | _ :: _, _ :: _, [] => fun _ h => by simp [Lib.compareBytes] at h
  | a :: as1, b :: bs, c :: cs => fun h1 h2 => by
    unfold Lib.compareBytes at h1 h2 ⊢
    rcases u8_tri a b with h | h | h
    · rcases u8_tri b c with g | g | g
      · rw [if_pos (u8_trans h g)]; decide
      · subst g; rw [if_pos h]; decide
      · rw [if_neg (u8_asymm g), if_pos g] at h2; simp at h2
    · subst h
      rcases u8_tri a c with g | g | g
      · rw [if_pos g]; decide
      · subst g
        simp only [if_neg (u8_irrefl a)] at h1 h2 ⊢
        exact cb_trans as1 bs cs h1 h2
      · rw [if_neg (u8_asymm g), if_pos g] at h2; simp at h2
    · rw [if_neg (u8_asymm h), if_pos h] at h1; simp at h1
theorem u8_inj {a b : Nat} (ha : a < 256) (hb : b < 256) (h : UInt8.ofNat a = UInt8.ofNat b) : a = b := by
  have := congrArg UInt8.toNat h
  rw [UInt8.toNat_ofNat', UInt8.toNat_ofNat', Nat.mod_eq_of_lt (by omega), Nat.mod_eq_of_lt (by omega)] at this
  exact this
theorem bytesN_inj {a b c d p a2 b2 c2 d2 p2 : Nat} (ha : a < 256) (hb : b < 256) (hc : c < 256) (hd : d < 256) (hp : p < 65536) (ha2 : a2 < 256) (hb2 : b2 < 256) (hc2 : c2 < 256) (hd2 : d2 < 256) (hp2 : p2 < 65536)
    (h : bytesN a b c d p = bytesN a2 b2 c2 d2 p2) : a = a2 ∧ b = b2 ∧ c = c2 ∧ d = d2 ∧ p = p2 := by
  unfold bytesN at h
  rw [be_two, be_two] at h
  simp only [List.cons_append, List.nil_append, List.cons.injEq, and_true] at h
  obtain ⟨h0, h1, h2, h3, h4, h5⟩ := h
  have e4 := u8_inj (by omega) (by omega) h4
  have e5 := u8_inj (by omega) (by omega) h5
  exact ⟨u8_inj ha ha2 h0, u8_inj hb hb2 h1, u8_inj hc hc2 h2, u8_inj hd hd2 h3, by omega⟩
def samePl (a b c d p a2 b2 c2 d2 p2 : Nat) : Bool := decide ((a = a2 ∧ b = b2 ∧ c = c2 ∧ d = d2) ∧ p = p2)
theorem eqIPd (dd a b c d a2 b2 c2 d2 : Nat) (w : World) :
    (Op.equalIn (dd + 2) 33 (.agg #[.int .u8 a, .int .u8 b, .int .u8 c, .int .u8 d]) (.agg #[.int .u8 a2, .int .u8 b2, .int .u8 c2, .int .u8 d2])).run Tryd.prog w = .ok (decide (a = a2 ∧ b = b2 ∧ c = c2 ∧ d = d2)) w := by
  obtain ⟨i, hi⟩ := Tryd.info5'
  show (Op.equalIn ((dd + 1) + 1) 33 (.agg (ipc a b c d)) (.agg (ipc a2 b2 c2 d2))).run Tryd.prog w = _
  rw [run_equalIn_array w (dd + 1) (ipc a b c d) (ipc a2 b2 c2 d2) Tryd.underlying33 hi, cells5]
  unfold ipc
  simp only [show List.range 4 = [0, 1, 2, 3] from rfl, Op.eqItems]
  simp [go_sem]
  by_cases h1 : a = a2 <;> by_cases h2 : b = b2 <;> by_cases h3 : c = c2 <;> by_cases h4 : d = d2 <;> simp [h1, h2, h3, h4] <;> omega
theorem eqPl (a b c d p a2 b2 c2 d2 p2 : Nat) (w : World) :
    (Op.equalIn 10000 36 (plc a b c d p) (plc a2 b2 c2 d2 p2)).run Tryd.prog w = .ok (samePl a b c d p a2 b2 c2 d2 p2) w := by
  unfold plc
  simp [go_sem]
  have e := eqIPd 9997 a b c d a2 b2 c2 d2 w
  rw [show 9997 + 2 = 9999 from rfl] at e
  rw [e]
  unfold samePl
  by_cases h : a = a2 ∧ b = b2 ∧ c = c2 ∧ d = d2
  · rw [decide_eq_true h]
    by_cases hp : p = p2
    · subst hp; simp [h]
    · have : ¬ ((p : Int) = p2) := by omega
      simp [h, hp, this]
  · rw [decide_eq_false h]
    simp [h]
end Go.Proofs.YtmflpjgedoopoaaDoor
