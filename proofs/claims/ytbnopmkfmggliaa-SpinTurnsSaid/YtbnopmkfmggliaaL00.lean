/- Whole numbers as words of binary floating point: sums, differences, products and comparisons of them are exact.; The parts of pairs: contracts of the float functions that pair calls.; Contracts of pair's functions, at pairs: is it one, its parts, sums, turns, mirrors, which one is ahead.; Walk of pair.Turn. -/
import Ieee.Arith
import Derived.Test.YtbnopmkfmggliaaRows
import Derived.WalkKit
import Derived.WalkLawsBesides
import Derived.Outline
import Derived.Laws.Externs
import Derived.Laws.BitsAllLaws
import Derived.Lib.Hide
import Derived.WalkSpells
import Derived.Deep.DeepCutAuto
import Derived.Deep.CutBlock
import Derived.Deep.QuietTactic
import Derived.BigQuiet
set_option linter.unusedVariables false
set_option linter.unusedSimpArgs false
namespace Go.Proofs.Ytbnopmkfmggliaa
namespace Fl
open Ieee

theorem log2_mul_pow (m k : Nat) (h : m ≠ 0) : (m * 2 ^ k).log2 = m.log2 + k := by
  have hp : 0 < 2 ^ k := Nat.two_pow_pos k
  have h' : m * 2 ^ k ≠ 0 := by
    intro e
    rcases Nat.mul_eq_zero.1 e with e | e
    · exact h e
    · omega
  rw [Nat.log2_eq_iff h']
  have h1 := (Nat.log2_eq_iff h).1 rfl
  constructor
  · rw [Nat.pow_add]; exact Nat.mul_le_mul_right _ h1.1
  · rw [show m.log2 + k + 1 = (m.log2 + 1) + k by omega, Nat.pow_add]; exact (Nat.mul_lt_mul_right hp).2 h1.2

theorem cut_exact (neg : Bool) (q d : Nat) (h : q ≠ 0) : Toward.even.cut neg (q * 2 ^ d) d = q := by
  have hp : 0 < 2 ^ d := Nat.two_pow_pos d
  unfold Toward.cut
  dsimp only
  rw [log2_mul_pow q d h, show min d (q.log2 + d + 2) = d by omega, Nat.one_shiftLeft, Nat.mul_div_cancel _ hp, Nat.mul_mod_left]
  simp

/-- The rung of a whole number above 0. -/
def rung (m : Nat) : Nat := (m.log2 + 1022) * 2 ^ 52 + m * 2 ^ (52 - m.log2)

theorem log2_le (m : Nat) (h : m < 2 ^ 53) : m.log2 ≤ 52 := by
  by_cases h0 : m = 0
  · subst h0; decide
  · have := (Nat.log2_lt h0).2 h; omega

theorem sig (m : Nat) (h0 : m ≠ 0) (h : m < 2 ^ 53) : 2 ^ 52 ≤ m * 2 ^ (52 - m.log2) ∧ m * 2 ^ (52 - m.log2) < 2 ^ 53 := by
  have hl := log2_le m h
  have h1 := (Nat.log2_eq_iff h0).1 rfl
  have e : ∀ j, j ≤ 52 → 2 ^ (52 : Nat) = 2 ^ j * 2 ^ (52 - j) := by
    intro j hj; rw [← Nat.pow_add, show j + (52 - j) = 52 by omega]
  constructor
  · rw [e _ hl]; exact Nat.mul_le_mul_right _ h1.1
  · rw [show (2 : Nat) ^ 53 = 2 ^ (m.log2 + 1) * 2 ^ (52 - m.log2) by rw [← Nat.pow_add, show m.log2 + 1 + (52 - m.log2) = 53 by omega]]
    exact (Nat.mul_lt_mul_right (Nat.two_pow_pos _)).2 h1.2

theorem nearest_exact (neg : Bool) (m k : Nat) (h0 : m ≠ 0) (h : m < 2 ^ 53) : double.nearest neg (m * 2 ^ k) (-(k : Int)) = double.word neg (rung m) := by
  have hl := log2_le m h
  have hs := sig m h0 h
  have hn : m * 2 ^ k ≠ 0 := by
    intro e
    rcases Nat.mul_eq_zero.1 e with e | e
    · exact h0 e
    · have := Nat.two_pow_pos k; omega
  unfold Format.nearest
  rw [if_neg hn]
  dsimp only
  rw [log2_mul_pow m k h0]
  have hlp : double.leastPlace = -1074 := rfl
  have hfb : (double.fractionBits : Int) = 52 := rfl
  have hbi : double.binade = 2 ^ 52 := rfl
  have hin : double.infRung = 2047 * 2 ^ 52 := rfl
  rw [hlp, hfb, hbi, hin]
  have hmax : max (-(k : Int) + ((m.log2 + k : Nat) : Int) - 52) (-1074) = (m.log2 : Int) - 52 := by
    rw [Int.max_def]; split <;> omega
  rw [hmax]
  have hc : (m * 2 ^ k) <<< (-(k : Int) - ((m.log2 : Int) - 52)).toNat = (m * 2 ^ (52 - m.log2)) * 2 ^ ((m.log2 : Int) - 52 - -(k : Int)).toNat := by
    rw [Nat.shiftLeft_eq]
    by_cases hk : m.log2 + k ≤ 52
    · rw [show (-(k : Int) - ((m.log2 : Int) - 52)).toNat = 52 - m.log2 - k by omega, show ((m.log2 : Int) - 52 - -(k : Int)).toNat = 0 by omega, Nat.mul_assoc, ← Nat.pow_add, show k + (52 - m.log2 - k) = 52 - m.log2 by omega]; simp
    · rw [show (-(k : Int) - ((m.log2 : Int) - 52)).toNat = 0 by omega, show ((m.log2 : Int) - 52 - -(k : Int)).toNat = m.log2 + k - 52 by omega, Nat.mul_assoc m (2 ^ (52 - m.log2)), ← Nat.pow_add 2 (52 - m.log2), show 52 - m.log2 + (m.log2 + k - 52) = k by omega]; simp
  rw [hc, cut_exact neg _ _ (by omega)]
  congr 1
  rw [show ((m.log2 : Int) - 52 - -1074).toNat = m.log2 + 1022 by omega]
  unfold rung
  have h53 : (2 : Nat) ^ 53 = 2 * 2 ^ 52 := rfl
  rw [h53] at hs
  generalize (2 : Nat) ^ 52 = B at *
  generalize m * 2 ^ (52 - m.log2) = q at *
  have : (m.log2 + 1022) * B ≤ (52 + 1022) * B := Nat.mul_le_mul_right _ (by omega)
  exact Nat.min_eq_left (by omega)

theorem split_word (neg : Bool) (S R : Nat) (h : R < S) : (if neg = true then S + R else R) % S = R ∧ ((if neg = true then S + R else R) / S % 2 == 1) = neg := by
  have hS : 0 < S := by omega
  cases neg
  · rw [if_neg (by decide)]
    exact ⟨Nat.mod_eq_of_lt h, by rw [Nat.div_eq_of_lt h]; rfl⟩
  · rw [if_pos rfl]
    refine ⟨by rw [Nat.add_mod_left, Nat.mod_eq_of_lt h], ?_⟩
    rw [Nat.add_div_left _ hS, Nat.div_eq_of_lt h]; decide
theorem split_rung (B l q : Nat) (h1 : B ≤ q) (h2 : q < 2 * B) : B + ((l + 1022) * B + q) % B = q ∧ ((l + 1022) * B + q) / B - 1 = l + 1022 := by
  obtain ⟨r, rfl⟩ : ∃ r, q = B + r := ⟨q - B, by omega⟩
  have hr : r < B := by omega
  have hB : 0 < B := by omega
  rw [show (l + 1022) * B + (B + r) = r + (l + 1023) * B by rw [show l + 1023 = (l + 1022) + 1 by omega, Nat.add_mul (l + 1022) 1 B]; omega]
  rw [Nat.add_mul_mod_self_right, Nat.mod_eq_of_lt hr, Nat.add_mul_div_right _ _ hB, Nat.div_eq_of_lt hr]
  exact ⟨rfl, by omega⟩
theorem read_word (neg : Bool) (m : Nat) (h0 : m ≠ 0) (h : m < 2 ^ 53) :
    double.read (double.word neg (rung m)) = .number neg (m * 2 ^ (52 - m.log2)) (-((52 - m.log2 : Nat) : Int)) := by
  have hl := log2_le m h
  have hs := sig m h0 h
  have hlp : double.leastPlace = -1074 := rfl
  have hbi : double.binade = 2 ^ 52 := rfl
  have hin : double.infRung = 2047 * 2 ^ 52 := rfl
  have hsw : double.signWeight = 2048 * 2 ^ 52 := rfl
  have h53 : (2 : Nat) ^ 53 = 2 * 2 ^ 52 := rfl
  rw [h53] at hs
  unfold Format.read Format.word rung
  dsimp only
  rw [hlp, hbi, hin, hsw]
  have hB : 0 < (2 : Nat) ^ 52 := Nat.two_pow_pos 52
  generalize (2 : Nat) ^ 52 = B at *
  generalize m * 2 ^ (52 - m.log2) = q at *
  generalize m.log2 = l at *
  have hR : (l + 1022) * B ≤ (52 + 1022) * B := Nat.mul_le_mul_right _ (by omega)
  obtain ⟨e1, e2⟩ := split_word neg (2048 * B) ((l + 1022) * B + q) (by omega)
  obtain ⟨e3, e4⟩ := split_rung B l q hs.1 hs.2
  rw [e1, e2, if_neg (by omega), if_pos (by omega), e3, e4, show -1074 + ((l + 1022 : Nat) : Int) = -((52 - l : Nat) : Int) by omega]

theorem read_zero (neg : Bool) : double.read (double.word neg 0) = .number neg 0 (-1074) := by
  cases neg <;> decide +kernel

/-- A float that is a whole number, a nought with whatever sign. -/
def Val (x : Nat) (a : Int) : Prop := ∃ (s : Bool) (k : Nat), double.read x = .number s (a.natAbs * 2 ^ k) (-(k : Int)) ∧ (a ≠ 0 → s = decide (a < 0))

/-- The word of a whole number. -/
def fb (a : Int) : Nat := double.write (.number (decide (a < 0)) a.natAbs 0)

theorem write_scaled (s : Bool) (a : Int) (k : Nat) (h : a.natAbs < 2 ^ 53) (hs : s = decide (a < 0)) : double.write (.number s (a.natAbs * 2 ^ k) (-(k : Int))) = fb a := by
  subst hs
  unfold fb Format.write
  dsimp only
  by_cases h0 : a.natAbs = 0
  · rw [h0, Nat.zero_mul]; unfold Format.nearest; rw [if_pos rfl, if_pos rfl]
  · rw [nearest_exact _ _ k h0 h]
    have := nearest_exact (decide (a < 0)) a.natAbs 0 h0 h
    simp at this
    exact this.symm

theorem val_write (s : Bool) (a : Int) (k : Nat) (h : a.natAbs < 2 ^ 53) (hs : a ≠ 0 → s = decide (a < 0)) : Val (double.write (.number s (a.natAbs * 2 ^ k) (-(k : Int)))) a := by
  unfold Format.write
  dsimp only
  by_cases h0 : a.natAbs = 0
  · obtain ⟨k', hk'⟩ : ∃ k' : Nat, k' = 1074 := ⟨_, rfl⟩
    refine ⟨s, k', ?_, hs⟩
    rw [h0, Nat.zero_mul, Nat.zero_mul]
    unfold Format.nearest
    rw [if_pos rfl, read_zero, hk']; rfl
  · rw [nearest_exact _ _ k h0 h]
    exact ⟨s, 52 - a.natAbs.log2, read_word s _ h0 h, hs⟩

theorem read_fb (a : Int) (h : a.natAbs < 2 ^ 53) : ∃ k : Nat, double.read (fb a) = .number (decide (a < 0)) (a.natAbs * 2 ^ k) (-(k : Int)) := by
  unfold fb Format.write
  dsimp only
  by_cases h0 : a.natAbs = 0
  · obtain ⟨k', hk'⟩ : ∃ k' : Nat, k' = 1074 := ⟨_, rfl⟩
    refine ⟨k', ?_⟩
    obtain rfl : a = 0 := by omega
    rw [Int.natAbs_zero, Nat.zero_mul, show double.nearest (decide ((0 : Int) < 0)) 0 0 = double.word false 0 from rfl, read_zero, hk']; rfl
  · have := nearest_exact (decide (a < 0)) a.natAbs 0 h0 h
    simp only [Nat.pow_zero, Nat.mul_one] at this
    rw [show (-((0 : Nat) : Int)) = 0 from rfl] at this
    rw [this]
    exact ⟨52 - a.natAbs.log2, read_word _ _ h0 h⟩

theorem val_fb (a : Int) (h : a.natAbs < 2 ^ 53) : Val (fb a) a := by
  obtain ⟨k, e⟩ := read_fb a h
  exact ⟨_, k, e, fun _ => rfl⟩

theorem signed_val (s : Bool) (a : Int) (i n : Nat) (h : a ≠ 0 → s = decide (a < 0)) (hi : i ≤ n) : signed s (a.natAbs * 2 ^ i) (-(i : Int) - -(n : Int)).toNat = a * 2 ^ n := by
  have e : (a.natAbs * 2 ^ i) <<< (-(i : Int) - -(n : Int)).toNat = a.natAbs * 2 ^ n := by
    rw [Nat.shiftLeft_eq, Nat.mul_assoc, ← Nat.pow_add, show i + (-(i : Int) - -(n : Int)).toNat = n by omega]
  unfold signed
  rw [e]
  by_cases h0 : a = 0
  · subst h0; cases s <;> simp
  · rw [h h0]
    by_cases hn : a < 0
    · rw [if_pos (by simpa using hn), Int.natCast_mul, Int.ofNat_natAbs_of_nonpos (by omega), Int.neg_mul, Int.neg_neg]; simp
    · rw [if_neg (by simpa using hn), Int.natCast_mul, Int.natAbs_of_nonneg (by omega)]; simp

theorem sum_val (a b : Int) (s t : Bool) (i j : Nat) (hs : a ≠ 0 → s = decide (a < 0)) (ht : b ≠ 0 → t = decide (b < 0)) :
    (Datum.number s (a.natAbs * 2 ^ i) (-(i : Int))).sum (.number t (b.natAbs * 2 ^ j) (-(j : Int))) =
      some (.number (if a + b = 0 then s && t else decide (a + b < 0)) ((a + b).natAbs * 2 ^ (max i j)) (-((max i j : Nat) : Int))) := by
  unfold Datum.sum
  dsimp only
  rw [show min (-(i : Int)) (-(j : Int)) = -((max i j : Nat) : Int) by omega]
  rw [signed_val s a i (max i j) hs (by omega), signed_val t b j (max i j) ht (by omega), ← Int.add_mul]
  have hp : (0 : Int) < 2 ^ (max i j) := Int.pow_pos (by decide)
  have e0 : (a + b) * 2 ^ (max i j) = 0 ↔ a + b = 0 := by
    constructor
    · intro h; rcases Int.mul_eq_zero.1 h with h | h
      · exact h
      · omega
    · intro h; rw [h, Int.zero_mul]
  have e1 : (a + b) * 2 ^ (max i j) < 0 ↔ a + b < 0 := by
    constructor
    · intro h
      rcases Int.lt_or_le (a + b) 0 with h1 | h1
      · exact h1
      · have := Int.mul_nonneg h1 (Int.le_of_lt hp); omega
    · intro h; exact Int.mul_neg_of_neg_of_pos h hp
  have e2 : ((a + b) * 2 ^ (max i j)).natAbs = (a + b).natAbs * 2 ^ (max i j) := by
    rw [Int.natAbs_mul, Int.natAbs_pow]; rfl
  rw [e2]
  congr 2
  by_cases h : a + b = 0
  · rw [if_pos h, if_pos (e0.2 h)]
  · rw [if_neg h, if_neg (fun g => h (e0.1 g))]; exact decide_eq_decide.2 e1

theorem add_fb (a b : Int) (ha : a.natAbs < 2 ^ 52) (hb : b.natAbs < 2 ^ 52) : double.add (fb a) (fb b) = some (fb (a + b)) := by
  obtain ⟨i, ei⟩ := read_fb a (by omega)
  obtain ⟨j, ej⟩ := read_fb b (by omega)
  unfold Format.add
  rw [ei, ej, sum_val a b _ _ i j (fun _ => rfl) (fun _ => rfl)]
  refine congrArg some ?_
  refine write_scaled _ _ _ (by omega) ?_
  by_cases h : a + b = 0
  · rw [if_pos h, h]
    by_cases h1 : a < 0
    · rw [show decide (b < 0) = false by simp; omega]; simp
    · rw [show decide (a < 0) = false by simpa using h1]; simp
  · rw [if_neg h]

theorem sub_fb (a b : Int) (ha : a.natAbs < 2 ^ 52) (hb : b.natAbs < 2 ^ 52) : double.sub (fb a) (fb b) = some (fb (a - b)) := by
  obtain ⟨i, ei⟩ := read_fb a (by omega)
  obtain ⟨j, ej⟩ := read_fb b (by omega)
  unfold Format.sub
  rw [ei, ej]
  unfold Datum.opposite
  dsimp only
  have e : b.natAbs = (-b).natAbs := by omega
  rw [e, sum_val a (-b) _ _ i j (fun _ => rfl) (fun h => by
    by_cases h1 : b < 0
    · rw [show decide (b < 0) = true by simpa using h1, show decide (-b < 0) = false by simp; omega]; rfl
    · rw [show decide (b < 0) = false by simpa using h1, show decide (-b < 0) = true by simp; omega]; rfl)]
  refine congrArg some ?_
  rw [← Int.sub_eq_add_neg]
  refine write_scaled _ _ _ (by omega) ?_
  by_cases h : a - b = 0
  · rw [if_pos h, h]
    by_cases h1 : a < 0
    · rw [show decide (b < 0) = true by simp; omega]; simp
    · rw [show decide (a < 0) = false by simpa using h1]; simp
  · rw [if_neg h]

theorem add_val {x y : Nat} {a b : Int} (hx : Val x a) (hy : Val y b) (h : (a + b).natAbs < 2 ^ 53) : ∃ r, double.add x y = some r ∧ Val r (a + b) := by
  obtain ⟨s, i, ei, hs⟩ := hx
  obtain ⟨t, j, ej, ht⟩ := hy
  unfold Format.add
  rw [ei, ej, sum_val a b _ _ i j hs ht]
  exact ⟨_, rfl, val_write _ _ _ h (fun h0 => if_neg h0)⟩

theorem sub_val {x y : Nat} {a b : Int} (hx : Val x a) (hy : Val y b) (h : (a - b).natAbs < 2 ^ 53) : ∃ r, double.sub x y = some r ∧ Val r (a - b) := by
  obtain ⟨s, i, ei, hs⟩ := hx
  obtain ⟨t, j, ej, ht⟩ := hy
  unfold Format.sub
  rw [ei, ej]
  unfold Datum.opposite
  dsimp only
  have e : b.natAbs = (-b).natAbs := by omega
  rw [e, sum_val a (-b) _ _ i j hs (fun h => by
    rw [ht (by omega)]
    by_cases h1 : b < 0
    · rw [show decide (b < 0) = true by simpa using h1, show decide (-b < 0) = false by simp; omega]; rfl
    · rw [show decide (b < 0) = false by simpa using h1, show decide (-b < 0) = true by simp; omega]; rfl)]
  rw [← Int.sub_eq_add_neg]
  exact ⟨_, rfl, val_write _ _ _ h (fun h0 => if_neg h0)⟩

theorem mul_val {x y : Nat} {a b : Int} (hx : Val x a) (hy : Val y b) (h : (a * b).natAbs < 2 ^ 53) : ∃ r, double.mul x y = some r ∧ Val r (a * b) := by
  obtain ⟨s, i, ei, hs⟩ := hx
  obtain ⟨t, j, ej, ht⟩ := hy
  unfold Format.mul
  rw [ei, ej]
  unfold Datum.product
  dsimp only
  rw [show a.natAbs * 2 ^ i * (b.natAbs * 2 ^ j) = (a * b).natAbs * 2 ^ (i + j) by rw [Int.natAbs_mul, Nat.pow_add]; simp only [Nat.mul_assoc, Nat.mul_left_comm], show -(i : Int) + -(j : Int) = -((i + j : Nat) : Int) by omega]
  refine ⟨_, rfl, val_write _ _ _ h (fun h0 => ?_)⟩
  have ha : a ≠ 0 := fun e => h0 (by rw [e, Int.zero_mul])
  have hb : b ≠ 0 := fun e => h0 (by rw [e, Int.mul_zero])
  rw [hs ha, ht hb]
  by_cases h1 : a < 0 <;> by_cases h2 : b < 0
  · have := Int.mul_pos_of_neg_of_neg h1 h2
    rw [show decide (a < 0) = true by simpa using h1, show decide (b < 0) = true by simpa using h2, show decide (a * b < 0) = false by simp; omega]; rfl
  · have := Int.mul_neg_of_neg_of_pos h1 (show 0 < b by omega)
    rw [show decide (a < 0) = true by simpa using h1, show decide (b < 0) = false by simpa using h2, show decide (a * b < 0) = true by simpa using this]; rfl
  · have := Int.mul_neg_of_pos_of_neg (show 0 < a by omega) h2
    rw [show decide (a < 0) = false by simpa using h1, show decide (b < 0) = true by simpa using h2, show decide (a * b < 0) = true by simpa using this]; rfl
  · have := Int.mul_pos (show 0 < a by omega) (show 0 < b by omega)
    rw [show decide (a < 0) = false by simpa using h1, show decide (b < 0) = false by simpa using h2, show decide (a * b < 0) = false by simp; omega]; rfl

theorem order_val {x y : Nat} {a b : Int} (hx : Val x a) (hy : Val y b) : double.order x y = some (compare a b) := by
  obtain ⟨s, i, ei, hs⟩ := hx
  obtain ⟨t, j, ej, ht⟩ := hy
  unfold Format.order
  rw [ei, ej]
  unfold Datum.order
  dsimp only
  rw [show min (-(i : Int)) (-(j : Int)) = -((max i j : Nat) : Int) by omega]
  rw [signed_val s a i (max i j) hs (by omega), signed_val t b j (max i j) ht (by omega)]
  have hp : (0 : Int) < 2 ^ (max i j) := Int.pow_pos (by decide)
  refine congrArg some ?_
  have h1 : a * 2 ^ (max i j) < b * 2 ^ (max i j) ↔ a < b := Int.mul_lt_mul_right hp
  have h2 : a * 2 ^ (max i j) = b * 2 ^ (max i j) ↔ a = b := Int.mul_eq_mul_right_iff (by omega)
  show compareOfLessAndEq _ _ = compareOfLessAndEq _ _
  unfold compareOfLessAndEq
  by_cases g : a < b
  · rw [if_pos g, if_pos (h1.2 g)]
  · rw [if_neg g, if_neg (fun q => g (h1.1 q))]
    by_cases g2 : a = b
    · rw [if_pos g2, if_pos (h2.2 g2)]
    · rw [if_neg g2, if_neg (fun q => g2 (h2.1 q))]
theorem fb_word (a : Int) (h0 : a.natAbs ≠ 0) (h : a.natAbs < 2 ^ 53) : fb a = double.word (decide (a < 0)) (rung a.natAbs) := by
  have := nearest_exact (decide (a < 0)) a.natAbs 0 h0 h
  simp only [Nat.pow_zero, Nat.mul_one] at this
  rw [show (-((0 : Nat) : Int)) = 0 from rfl] at this
  exact this
theorem rung_lt (m : Nat) (h0 : m ≠ 0) (h : m < 2 ^ 53) : rung m < double.signWeight := by
  have hl := log2_le m h
  have hs := sig m h0 h
  have h53 : (2 : Nat) ^ 53 = 2 * 2 ^ 52 := rfl
  rw [h53] at hs
  rw [show double.signWeight = 2048 * 2 ^ 52 from rfl]
  unfold rung
  generalize (2 : Nat) ^ 52 = B at *
  generalize m * 2 ^ (52 - m.log2) = q at *
  have : (m.log2 + 1022) * B ≤ (52 + 1022) * B := Nat.mul_le_mul_right _ (by omega)
  omega
theorem fb_zero : fb 0 = 0 := rfl
theorem fb_le (a : Int) (h : a.natAbs < 2 ^ 53) : (a < 0 → double.signWeight ≤ fb a ∧ fb a < 2 * double.signWeight) ∧ (0 ≤ a → fb a < double.signWeight) := by
  by_cases h0 : a.natAbs = 0
  · obtain rfl : a = 0 := by omega
    exact ⟨fun h => absurd h (by decide), fun _ => Nat.two_pow_pos _⟩
  · rw [fb_word a h0 h]
    have := rung_lt _ h0 h
    unfold Format.word
    constructor
    · intro hn
      rw [if_pos (by simpa using hn)]; omega
    · intro hn
      rw [if_neg (by simpa using hn)]; exact this
theorem fb_abs (a : Int) (h : a.natAbs < 2 ^ 53) : fb a % double.signWeight = fb (a.natAbs : Int) := by
  by_cases h0 : a.natAbs = 0
  · obtain rfl : a = 0 := by omega
    exact Nat.zero_mod _
  · rw [fb_word a h0 h, fb_word (a.natAbs : Int) (by omega) (by omega), Int.natAbs_natCast, show decide ((a.natAbs : Int) < 0) = false by simp]
    unfold Format.word
    rw [(split_word (decide (a < 0)) _ _ (rung_lt _ h0 h)).1]; rfl
theorem cut_zero (neg : Bool) (q d : Nat) : Toward.zero.cut neg (q * 2 ^ d) d = q := by
  have hp : 0 < 2 ^ d := Nat.two_pow_pos d
  unfold Toward.cut
  dsimp only
  by_cases h : q = 0
  · subst h; simp
  · rw [log2_mul_pow q d h, show min d (q.log2 + d + 2) = d by omega, Nat.one_shiftLeft, Nat.mul_div_cancel _ hp]; rfl
/-- A whole number is its own whole part. -/
theorem trunc_fb (a : Int) (h : a.natAbs < 2 ^ 53) : ∃ s m p, double.read (fb a) = .number s m p ∧ double.write ((Datum.number s m p).integral .zero) = fb a := by
  obtain ⟨k, e⟩ := read_fb a h
  refine ⟨_, _, _, e, ?_⟩
  unfold Datum.integral
  dsimp only
  rw [show (-(k : Int)).toNat = 0 by omega, Nat.shiftLeft_zero, show (- -(k : Int)).toNat = k by omega, cut_zero]
  rfl
theorem order_fb (a b : Int) (ha : a.natAbs < 2 ^ 53) (hb : b.natAbs < 2 ^ 53) : double.order (fb a) (fb b) = some (compare a b) := order_val (val_fb a ha) (val_fb b hb)
theorem cmp_lt {a b : Int} (h : a < b) : compare a b = .lt := by
  show compareOfLessAndEq _ _ = _
  unfold compareOfLessAndEq; rw [if_pos h]
theorem cmp_eq (a : Int) : compare a a = .eq := by
  show compareOfLessAndEq _ _ = _
  unfold compareOfLessAndEq; rw [if_neg (by omega), if_pos rfl]
theorem cmp_gt {a b : Int} (h : b < a) : compare a b = .gt := by
  show compareOfLessAndEq _ _ = _
  unfold compareOfLessAndEq; rw [if_neg (by omega), if_neg (by omega)]
end Fl
end Go.Proofs.Ytbnopmkfmggliaa

namespace Go.Proofs.Ytbnopmkfmggliaa
open Go.RowKit
open Fl

theorem run51 (x : Nat) (w : World) : (callFunc 38 #[.float .f64 x]).run Try.prog w = .ok (.value (.int .u64 (x : Int))) w := by
  rw [run_callFunc_extern Try.func38 (by kernel_rfl) (by kernel_rfl) (by kernel_rfl) (e := Extern.MathFloatBits.float64bits) (by kernel_rfl)]
  rfl
theorem run69 (x : Nat) (w : World) : (callFunc 37 #[.int .u64 (x : Int)]).run Try.prog w = .ok (.value (.float .f64 x)) w := by
  rw [run_callFunc_extern Try.func37 (by kernel_rfl) (by kernel_rfl) (by kernel_rfl) (e := Extern.MathFloatBits.float64frombits) (by kernel_rfl)]
  rfl
theorem run70 (a : Int) (h : a.natAbs < 2 ^ 53) (w : World) : (callFunc 39 #[.float .f64 (fb a)]).run Try.prog w = .ok (.value (.float .f64 (fb a))) w := by
  rw [run_callFunc_extern Try.func39 (by kernel_rfl) (by kernel_rfl) (by kernel_rfl) (e := Extern.MathFloor.toIntegral "math.archTrunc" .zero) (by kernel_rfl)]
  obtain ⟨s, m, p, e1, e2⟩ := trunc_fb a h
  have e3 : Extern.MathFloor.toIntegral "math.archTrunc" .zero #[.float .f64 (fb a)] = pure (.float .f64 (FloatKind.f64.encode ((Ieee.Datum.number s m p).integral .zero))) := by
    show (match Ieee.double.read (fb a) with
      | .nan s t => _
      | d => pure (Value.float .f64 (FloatKind.f64.encode (d.integral .zero)))) = _
    rw [e1]
  rw [e3, show FloatKind.f64.encode ((Ieee.Datum.number s m p).integral .zero) = fb a from e2]
  rfl

theorem abs_any (a : Int) (h : a.natAbs < 2 ^ 53) (w : World) :
    Calls Try.prog 34 #[.float .f64 (fb a)] w fun e w' => e = .returned (.float .f64 (fb (a.natAbs : Int))) ∧ w = w' := by
  have h1 := run51 (fb a)
  have h2 := run69 (fb (a.natAbs : Int))
  have h3 : bits .andNot .u64 ((fb a : Nat) : Int) 9223372036854775808 = ((fb (a.natAbs : Int) : Nat) : Int) := by
    have hb : fb a < 18446744073709551616 := by
      have := fb_le a h
      have hs : Ieee.double.signWeight = 9223372036854775808 := by decide +kernel
      rw [hs] at this
      rcases Int.lt_or_le a 0 with g | g
      · exact (this.1 g).2
      · have := this.2 g; omega
    rw [u64_andNot _ _ (by omega) (by omega) (by omega) (by omega)]
    have hs : Ieee.double.signWeight = 2 ^ 63 := by decide +kernel
    have := fb_abs a h
    rw [hs] at this
    rw [← this, Int.toNat_natCast, ← Nat.and_two_pow_sub_one_eq_mod]
    rfl
  generalize fb (a.natAbs : Int) = x at *
  generalize fb a = y at *
  go_enter Try.func34, Try.ntmps34
  go_wp2
  go_ret
  exact ⟨rfl, rfl⟩
theorem trunc_any (a : Int) (h : a.natAbs < 2 ^ 53) (w : World) :
    Calls Try.prog 35 #[.float .f64 (fb a)] w fun e w' => e = .returned (.float .f64 (fb a)) ∧ w = w' := by
  have h1 := run70 a h
  generalize fb a = y at *
  go_enter Try.func35, Try.ntmps35
  go_wp2
  go_ret
  exact ⟨rfl, rfl⟩
theorem sign_any (a : Int) (h : a.natAbs < 2 ^ 53) (w : World) :
    Calls Try.prog 36 #[.float .f64 (fb a)] w fun e w' => e = .returned (.bool (decide (a < 0))) ∧ w = w' := by
  have h1 := run51 (fb a)
  have hb := fb_le a h
  have hs : Ieee.double.signWeight = 9223372036854775808 := by decide +kernel
  rw [hs] at hb
  have hb2 : (fb a : Int) < 18446744073709551616 := by
    rcases Int.lt_or_le a 0 with g | g
    · have := (hb.1 g).2; omega
    · have := hb.2 g; omega
  have h2 : decide (wrap64 ((fb a : Nat) : Int) < 0) = decide (a < 0) := by
    unfold wrap64
    refine decide_eq_decide.2 ?_
    rcases Int.lt_or_le a 0 with g | g
    · have := hb.1 g; omega
    · have := hb.2 g; omega
  clear hs hb hb2
  generalize fb a = y at *
  generalize decide (a < 0) = D at *
  go_enter Try.func36, Try.ntmps36
  go_wp2
  go_ret
  exact ⟨rfl, rfl⟩

/-- A part of a pair. -/
def In (a : Int) : Prop := -1099511627776 ≤ a ∧ a ≤ 1099511627776
theorem In.small {a : Int} (h : In a) : a.natAbs < 2 ^ 52 := by
  have e : (2 : Nat) ^ 52 = 4503599627370496 := rfl
  rw [e]; unfold In at h; omega
theorem In.small3 {a : Int} (h : In a) : a.natAbs < 2 ^ 53 := by
  have e : (2 : Nat) ^ 53 = 9007199254740992 := rfl
  rw [e]; unfold In at h; omega
theorem fb_most : fb 1099511627776 = 4787326403894837248 := by decide +kernel
theorem fb_least : fb (-1099511627776) = 14010698440749613056 := by decide +kernel
theorem order_lits (a b : Int) (ha : a.natAbs < 2 ^ 53) (hb : b.natAbs < 2 ^ 53) : FloatKind.f64.format.order (fb a) (fb b) = some (compare a b) := order_fb a b ha hb

theorem part_any (a : Int) (h : In a) (w : World) :
    Calls Try.prog 31 #[.float .f64 (fb a)] w fun e w' => e = .returned (.bool true) ∧ w = w' := by
  have KA := Lib.hid (abs_any a h.small3)
  have KT := Lib.hid (trunc_any a h.small3)
  have KS := Lib.hid (sign_any a h.small3)
  have h0 := order_lits a 0 h.small3 (by decide)
  have h1 := order_lits (a.natAbs : Int) 1099511627776 (by have := h.small3; omega) (by decide)
  have h2 := order_lits a a h.small3 h.small3
  rw [fb_zero] at h0
  rw [fb_most] at h1
  rw [cmp_eq] at h2
  have h1' : FloatKind.f64.format.order (fb (a.natAbs : Int)) 4787326403894837248 = some .lt ∨ FloatKind.f64.format.order (fb (a.natAbs : Int)) 4787326403894837248 = some .eq := by
    rw [h1]
    unfold In at h
    by_cases g : (a.natAbs : Int) < 1099511627776
    · rw [cmp_lt g]; exact Or.inl rfl
    · rw [show (a.natAbs : Int) = 1099511627776 by omega, cmp_eq]; exact Or.inr rfl
  have h0' : (FloatKind.f64.format.order (fb a) 0 = some .eq ∧ decide (a < 0) = false) ∨ FloatKind.f64.format.order (fb a) 0 = some .lt ∨ FloatKind.f64.format.order (fb a) 0 = some .gt := by
    rw [h0]
    rcases Int.lt_trichotomy a 0 with g | g | g
    · rw [cmp_lt g]; exact Or.inr (Or.inl rfl)
    · subst g; rw [cmp_eq]; exact Or.inl ⟨rfl, rfl⟩
    · rw [cmp_gt g]; exact Or.inr (Or.inr rfl)
  clear h0 h1
  generalize decide (a < 0) = D at *
  generalize fb (a.natAbs : Int) = x at *
  generalize fb a = y at *
  rcases h1' with h1 | h1
  all_goals
    rcases h0' with ⟨h0, rfl⟩ | h0 | h0
    all_goals
      go_enter Try.func31, Try.ntmps31
      go_wp2_with (first
        | (go_at_call 34; ((with_reducible refine (KA.out _).mono ?_); rintro e w1 ⟨rfl, rfl⟩))
        | (go_at_call 35; ((with_reducible refine (KT.out _).mono ?_); rintro e w1 ⟨rfl, rfl⟩))
        | (go_at_call 36; ((with_reducible refine (KS.out _).mono ?_); rintro e w1 ⟨rfl, rfl⟩)))
      go_ret
      exact ⟨rfl, rfl⟩
end Go.Proofs.Ytbnopmkfmggliaa

namespace Go.Proofs.Ytbnopmkfmggliaa
open Go.RowKit
open Fl

def cplx (a b : Int) : Value := .complex .f64 (fb a) (fb b)

theorem is_any (a b : Int) (ha : In a) (hb : In b) (w : World) :
    Calls Try.prog 25 #[cplx a b] w fun e w' => e = .returned (.bool true) ∧ w = w' := by
  have KA := Lib.hid (part_any a ha)
  have KB := Lib.hid (part_any b hb)
  unfold cplx
  generalize fb a = x at *
  generalize fb b = y at *
  go_enter Try.func25, Try.ntmps25
  go_wp2_with (first
    | (go_at_call 31; ((with_reducible refine (KA.out _).mono ?_); rintro e w1 ⟨rfl, rfl⟩))
    | (go_at_call 31; ((with_reducible refine (KB.out _).mono ?_); rintro e w1 ⟨rfl, rfl⟩)))
  go_ret
  exact ⟨rfl, rfl⟩

theorem toInt_fb (a : Int) (h : In a) : floatToIntVal .f64 (fb a) .i64 = some a := by
  obtain ⟨k, e⟩ := read_fb a h.small3
  unfold floatToIntVal
  rw [show FloatKind.f64.decode (fb a) = _ from e]
  have e2 : (Ieee.Datum.number (decide (a < 0)) (a.natAbs * 2 ^ k) (-(k : Int))).toInt .zero = some a := by
    unfold Ieee.Datum.toInt Ieee.Datum.integral
    dsimp only
    rw [show (-(k : Int)).toNat = 0 by omega, Nat.shiftLeft_zero, show (- -(k : Int)).toNat = k by omega, cut_zero]
    unfold Ieee.signed
    rw [Nat.shiftLeft_zero]
    by_cases g : a < 0
    · rw [if_pos (by simpa using g)]; congr 1; omega
    · rw [if_neg (by simpa using g)]; congr 1; omega
  rw [e2]
  unfold In at h
  exact if_pos ⟨by show (-9223372036854775808 : Int) ≤ a; omega, by show a ≤ (9223372036854775807 : Int); omega⟩
theorem run_to (a : Int) (h : In a) (w : World) : (convert 60 2 (.float .f64 (fb a))).run Try.prog w = .ok (.int .i64 a) w :=
  run_convert_float_int w 60 2 .f64 .i64 (fb a) a (by kernel_rfl) (by kernel_rfl) (toInt_fb a h)
theorem run_of (a : Int) (w : World) : (convert 2 60 (.int .i64 a)).run Try.prog w = .ok (.float .f64 (fb a)) w :=
  run_convert_int_float w 2 60 .i64 .f64 a (by kernel_rfl) (by kernel_rfl)

theorem parts_any (a b : Int) (ha : In a) (hb : In b) (w : World) :
    Calls Try.prog 15 #[cplx a b] w fun e w' => e = .returned (.tuple #[.int .i64 a, .int .i64 b, .int .i64 0]) ∧ w = w' := by
  have KI := Lib.hid (is_any a b ha hb)
  have h1 := run_to a ha
  have h2 := run_to b hb
  unfold cplx at *
  generalize fb a = x at *
  generalize fb b = y at *
  go_enter Try.func15, Try.ntmps15
  go_wp2_with ((go_at_call 25; ((with_reducible refine (KI.out _).mono ?_); rintro e w1 ⟨rfl, rfl⟩)))
  go_ret3
  exact ⟨rfl, rfl⟩

theorem of_any (a b : Int) (ha : In a) (hb : In b) (w : World) :
    Calls Try.prog 32 #[.int .i64 a, .int .i64 b] w fun e w' => e = .returned (.tuple #[cplx a b, .int .i64 0]) ∧ w = w' := by
  have h1 := run_of a
  have h2 := run_of b
  obtain ⟨a1, a2⟩ := ha
  obtain ⟨b1, b2⟩ := hb
  unfold cplx at *
  generalize fb a = x at *
  generalize fb b = y at *
  go_enter Try.func32, Try.ntmps32
  go_wp2
  go_ret2
  exact ⟨rfl, rfl⟩

def holdI (n : Int) : Int := if 1099511627776 < n then 1099511627776 else if n < -1099511627776 then -1099511627776 else n
theorem holdI_in (n : Int) : In (holdI n) := by unfold holdI In; split <;> (try split) <;> omega
theorem run_below (a : Int) (h : In a) (w : World) : (binOp .sub 60 (.float .f64 0) (.float .f64 (fb a))).run Try.prog w = .ok (.float .f64 (fb (-a))) w := by
  refine run_float_arith w .sub 60 .f64 0 (fb a) (fb (-a)) ?_
  have := sub_fb 0 a (by decide) h.small
  rw [Int.zero_sub, fb_zero] at this
  exact this
theorem below_any (a : Int) (h : In a) (w : World) :
    Calls Try.prog 30 #[.float .f64 (fb a)] w fun e w' => e = .returned (.float .f64 (fb (-a))) ∧ w = w' := by
  have h1 := run_below a h
  generalize fb a = x at *
  generalize fb (-a) = y at *
  go_enter Try.func30, Try.ntmps30
  go_wp2
  go_ret
  exact ⟨rfl, rfl⟩

theorem run_max (a b : Int) (ha : a.natAbs < 2 ^ 53) (hb : b.natAbs < 2 ^ 53) (ts : Array TypeId) (t : TypeId) (w : World) :
    (Builtin.max_ ts t #[.float .f64 (fb a), .float .f64 (fb b)]).run Try.prog w = .ok (.float .f64 (fb (if a < b then b else a))) w := by
  have h := order_lits a b ha hb
  rcases Int.lt_trichotomy a b with g | g | g
  · rw [show (if a < b then b else a) = b from if_pos g]
    show (Builtin.max2 (.float .f64 (fb a)) (.float .f64 (fb b)) >>= pure).run Try.prog w = _
    unfold Builtin.max2
    dsimp only
    rw [h, cmp_lt g]; rfl
  · subst g
    rw [show (if a < a then a else a) = a from ite_self _]
    show (Builtin.max2 (.float .f64 (fb a)) (.float .f64 (fb a)) >>= pure).run Try.prog w = _
    unfold Builtin.max2
    dsimp only
    rw [h, cmp_eq]
    dsimp only
    rw [ite_self]; rfl
  · rw [show (if a < b then b else a) = a from if_neg (by omega)]
    show (Builtin.max2 (.float .f64 (fb a)) (.float .f64 (fb b)) >>= pure).run Try.prog w = _
    unfold Builtin.max2
    dsimp only
    rw [h, cmp_gt g]; rfl
theorem run_min (a b : Int) (ha : a.natAbs < 2 ^ 53) (hb : b.natAbs < 2 ^ 53) (ts : Array TypeId) (t : TypeId) (w : World) :
    (Builtin.min_ ts t #[.float .f64 (fb a), .float .f64 (fb b)]).run Try.prog w = .ok (.float .f64 (fb (if b < a then b else a))) w := by
  have h := order_lits a b ha hb
  rcases Int.lt_trichotomy a b with g | g | g
  · rw [show (if b < a then b else a) = a from if_neg (by omega)]
    show (Builtin.min2 (.float .f64 (fb a)) (.float .f64 (fb b)) >>= pure).run Try.prog w = _
    unfold Builtin.min2
    dsimp only
    rw [h, cmp_lt g]; rfl
  · subst g
    rw [show (if a < a then a else a) = a from ite_self _]
    show (Builtin.min2 (.float .f64 (fb a)) (.float .f64 (fb a)) >>= pure).run Try.prog w = _
    unfold Builtin.min2
    dsimp only
    rw [h, cmp_eq]
    dsimp only
    rw [ite_self]; rfl
  · rw [show (if b < a then b else a) = b from if_pos g]
    show (Builtin.min2 (.float .f64 (fb a)) (.float .f64 (fb b)) >>= pure).run Try.prog w = _
    unfold Builtin.min2
    dsimp only
    rw [h, cmp_gt g]; rfl
theorem held_any (a : Int) (h : a.natAbs < 2 ^ 53) (w : World) :
    Calls Try.prog 29 #[.float .f64 (fb a)] w fun e w' => e = .returned (.float .f64 (fb (holdI a))) ∧ w = w' := by
  have h1 := run_max a (-1099511627776) h (by decide)
  have h2 := run_min (if a < -1099511627776 then -1099511627776 else a) 1099511627776 (by split <;> first | decide | exact h) (by decide)
  rw [show (if 1099511627776 < (if a < -1099511627776 then -1099511627776 else a) then 1099511627776 else (if a < -1099511627776 then -1099511627776 else a)) = holdI a by unfold holdI; split <;> split <;> (try split) <;> omega] at h2
  rw [fb_least] at h1
  rw [fb_most] at h2
  generalize fb (if a < -1099511627776 then -1099511627776 else a) = z at *
  generalize fb a = x at *
  generalize fb (holdI a) = y at *
  go_enter Try.func29, Try.ntmps29
  go_wp2
  go_ret
  exact ⟨rfl, rfl⟩

theorem run_sum (a b c d : Int) (ha : In a) (hb : In b) (hc : In c) (hd : In d) (w : World) :
    (binOp .add 25 (cplx a b) (cplx c d)).run Try.prog w = .ok (cplx (a + c) (b + d)) w := by
  refine run_complex_sum w .add (Or.inl rfl) 25 .f64 _ _ _ _ _ _ ?_
  unfold cSumBits
  rw [show floatBits .add .f64 (fb a) (fb c) = some (fb (a + c)) from add_fb a c ha.small hc.small, show floatBits .add .f64 (fb b) (fb d) = some (fb (b + d)) from add_fb b d hb.small hd.small]
  rfl
theorem add_any (a b c d : Int) (ha : In a) (hb : In b) (hc : In c) (hd : In d) (w : World) :
    Calls Try.prog 22 #[cplx a b, cplx c d] w fun e w' => e = .returned (cplx (holdI (a + c)) (holdI (b + d))) ∧ w = w' := by
  have KI := Lib.hid (is_any a b ha hb)
  have KJ := Lib.hid (is_any c d hc hd)
  have h1 := run_sum a b c d ha hb hc hd
  have e53 : (2 : Nat) ^ 53 = 9007199254740992 := rfl
  have KA := Lib.hid (held_any (a + c) (by rw [e53]; unfold In at *; omega))
  have KB := Lib.hid (held_any (b + d) (by rw [e53]; unfold In at *; omega))
  unfold cplx at *
  generalize fb a = x at *
  generalize fb b = y at *
  generalize fb c = z at *
  generalize fb d = u at *
  generalize fb (a + c) = p at *
  generalize fb (b + d) = q at *
  generalize fb (holdI (a + c)) = r at *
  generalize fb (holdI (b + d)) = s at *
  go_enter Try.func22, Try.ntmps22
  go_wp2_with (first
    | (go_at_call 25; ((with_reducible refine (KI.out _).mono ?_); rintro e w1 ⟨rfl, rfl⟩))
    | (go_at_call 25; ((with_reducible refine (KJ.out _).mono ?_); rintro e w1 ⟨rfl, rfl⟩))
    | (go_at_call 29; ((with_reducible refine (KA.out _).mono ?_); rintro e w1 ⟨rfl, rfl⟩))
    | (go_at_call 29; ((with_reducible refine (KB.out _).mono ?_); rintro e w1 ⟨rfl, rfl⟩)))
  go_ret
  exact ⟨rfl, rfl⟩

end Go.Proofs.Ytbnopmkfmggliaa

namespace Go.Proofs.Ytbnopmkfmggliaa
open Go.RowKit
open Fl

/-- Quarters of a turn, one by one. -/
def rotA : Nat → Int → Int → Int
  | 0, a, _ => a
  | k + 1, a, b => rotA k (-b) a
def rotB : Nat → Int → Int → Int
  | 0, _, b => b
  | k + 1, a, b => rotB k (-b) a

/-- What holds at each jump back. -/
def TurnJ (q A B : Int) (w : World) (a' : Act) (w' : World) : Prop :=
  w = w' ∧ ∃ (a b : Int) (k : Nat) (u2 u3 u4 u6 u7 u8 u9 u10 u11 u12 u13 u14 u15 u16 u17 u18 u19 u20 u21 u22 u23 u24 u25 : Value), a' = { tmps := #[.complex .f64 (fb a) (fb b), .int .i64 q, u2, u3, u4, .int .i64 k, u6, u7, u8, u9, u10, u11, u12, u13, u14, u15, u16, u17, u18, u19, u20, u21, u22, u23, u24, u25], defers := [] } ∧ In a ∧ In b ∧ k ≤ 3 ∧ rotA k a b = A ∧ rotB k a b = B

theorem In.neg {a : Int} (h : In a) : In (-a) := by unfold In at *; omega

set_option maxRecDepth 1000000 in
theorem turn_any (a b : Int) (q : Nat) (hq : q ≤ 510) (ha : In a) (hb : In b) (w : World) :
    Calls Try.prog 23 #[cplx a b, .int .i64 (q : Int)] w fun e w' => e = .returned (cplx (rotA (q % 4) a b) (rotB (q % 4) a b)) ∧ w = w' := by
  have KI := Lib.hid (is_any a b ha hb)
  have KB := Lib.hid (below_any b hb)
  obtain ⟨r, hr⟩ : ∃ r, r = q % 4 := ⟨_, rfl⟩
  have hr2 : r ≤ 3 := by omega
  have hrem : (q : Int) % 4 = (r : Int) := by omega
  rw [← hr]
  obtain ⟨A, hA⟩ : ∃ A, rotA r a b = A := ⟨_, rfl⟩
  obtain ⟨B, hB⟩ : ∃ B, rotB r a b = B := ⟨_, rfl⟩
  rw [hA, hB]
  have HA := Lib.hid hA
  have HB := Lib.hid hB
  have HIN := Lib.hid (And.intro ha hb)
  clear hr hA hB ha hb
  unfold cplx at *
  have hq0 : (0 : Int) ≤ q := by omega
  go_enter Try.func23, Try.ntmps23
  go_wp2
  refine wp_scope_jumps 0 (TurnJ q A B w) (fun a' _ => (intOf (a'.tmps.getD 5 undef)).toNat) rfl ?_ ?_
  · obtain rfl | ⟨k, rfl⟩ : r = 0 ∨ ∃ k, r = k + 1 := by cases r with
      | zero => exact Or.inl rfl
      | succ k => exact Or.inr ⟨k, rfl⟩
    · replace hrem : (q : Int) % 4 = 0 := hrem
      go_wp2_with ((go_at_call 25; ((with_reducible refine (KI.out _).mono ?_); rintro e w1 ⟨rfl, rfl⟩)))
      go_step3
      simp only [Exit.then]
      apply_assumption
      go_wp2
      simp only [Exit.jump]
      go_ret
      rw [← HA.out, ← HB.out]
      exact ⟨rfl, rfl⟩
    · replace hrem : (q : Int) % 4 = (k : Int) + 1 := by omega
      go_wp2_with ((go_at_call 25; ((with_reducible refine (KI.out _).mono ?_); rintro e w1 ⟨rfl, rfl⟩)))
      go_step3
      simp only [Exit.then]
      apply_assumption
      go_wp2_with ((go_at_call 30; ((with_reducible refine (KB.out _).mono ?_); rintro e w1 ⟨rfl, rfl⟩)))
      go_step3
      exact ⟨rfl, rfl, -b, a, k, _, _, _, _, _, _, _, _, _, _, _, _, _, _, _, _, _, _, _, _, _, _, _, rfl, HIN.out.2.neg, HIN.out.1, by omega, HA.out, HB.out⟩
  · rintro a' w' ⟨rfl, a, b, r, u2, u3, u4, u6, u7, u8, u9, u10, u11, u12, u13, u14, u15, u16, u17, u18, u19, u20, u21, u22, u23, u24, u25, rfl, ha, hb, hk, hA, hB⟩
    clear KB HA HB hrem hr2 KI HIN
    have HA := Lib.hid hA
    have HB := Lib.hid hB
    have KB := Lib.hid (below_any b hb)
    have HIN := Lib.hid (And.intro ha hb)
    clear hA hB ha hb
    obtain rfl | ⟨k, rfl⟩ : r = 0 ∨ ∃ k, r = k + 1 := by cases r with
      | zero => exact Or.inl rfl
      | succ k => exact Or.inr ⟨k, rfl⟩
    · go_wp2
      simp only [Exit.jump]
      go_ret
      rw [← HA.out, ← HB.out]
      exact ⟨rfl, rfl⟩
    · go_wp2_with ((go_at_call 30; ((with_reducible refine (KB.out _).mono ?_); rintro e w1 ⟨rfl, rfl⟩)))
      go_step3
      refine ⟨rfl, ⟨rfl, -b, a, k, _, _, _, _, _, _, _, _, _, _, _, _, _, _, _, _, _, _, _, _, _, _, _, rfl, HIN.out.2.neg, HIN.out.1, by omega, HA.out, HB.out⟩, ?_⟩
      simp [intOf]
end Go.Proofs.Ytbnopmkfmggliaa
