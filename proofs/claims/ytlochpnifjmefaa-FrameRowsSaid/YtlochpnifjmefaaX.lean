import Derived.Test.YtlochpnifjmefaaK
/- Plain facts: up to 32 bits turned, one behind the other, are found by the CRC. -/
namespace Go.Proofs.Ytlochpnifjmefaa

/-- So many bits of a number, from the lowest on, are fed to the register. -/
def feed : Nat → Nat → Nat → Nat
  | 0, x, _ => x
  | t + 1, x, m => feed t (bit (x ^^^ m % 2)) (m / 2)

theorem xor_mod2' (a b : Nat) : (a ^^^ b) % 2 = a % 2 ^^^ b % 2 := by
  have := Nat.xor_mod_two_pow (a := a) (b := b) (n := 1)
  simpa only [Nat.pow_one] using this
theorem xor_swap (x y a b : Nat) : x ^^^ y ^^^ (a ^^^ b) = x ^^^ a ^^^ (y ^^^ b) := by
  rw [Nat.xor_assoc, ← Nat.xor_assoc y, Nat.xor_comm y a, Nat.xor_assoc a, ← Nat.xor_assoc x]

theorem feed_xor (t : Nat) : ∀ x y a b, feed t (x ^^^ y) (a ^^^ b) = feed t x a ^^^ feed t y b := by
  induction t with
  | zero => intro x y a b; rfl
  | succ t ih =>
    intro x y a b
    show feed t (bit (x ^^^ y ^^^ (a ^^^ b) % 2)) ((a ^^^ b) / 2) = _
    rw [xor_mod2', xor_div2, xor_swap, bit_xor, ih]
    rfl
theorem bit_even2 (c : Nat) : bit (2 * c) = c := by
  unfold bit; rw [if_neg (by omega)]; omega
theorem split2 (b : Nat) : b % 2 ^^^ 2 * (b / 2) = b := by
  have h1 : (b % 2 ^^^ 2 * (b / 2)) % 2 = b % 2 := by
    have h := xor_mod2 (b % 2) (2 * (b / 2)); omega
  have h2 : (b % 2 ^^^ 2 * (b / 2)) / 2 = b / 2 := by
    rw [xor_div2, show b % 2 / 2 = 0 by omega, Nat.zero_xor]; omega
  omega
theorem feed_num (t : Nat) : ∀ x b, b < 2 ^ t → feed t x b = bitN t (x ^^^ b) := by
  induction t with
  | zero => intro x b hb; rw [show b = 0 by omega, Nat.xor_zero]; rfl
  | succ t ih =>
    intro x b hb
    show feed t (bit (x ^^^ b % 2)) (b / 2) = bitN t (bit (x ^^^ b))
    rw [ih _ _ (by rw [Nat.pow_succ] at hb; omega)]
    congr 1
    have h := congrArg (fun z => bit (x ^^^ z)) (split2 b)
    rw [← h, ← Nat.xor_assoc, bit_xor (x ^^^ b % 2), bit_even2]
theorem feed_add (a : Nat) : ∀ t x b m, b < 2 ^ a → feed (a + t) x (b + 2 ^ a * m) = feed t (feed a x b) m := by
  induction a with
  | zero =>
    intro t x b m hb
    rw [show b = 0 by omega]; simp [feed]
  | succ a ih =>
    intro t x b m hb
    rw [Nat.pow_succ] at hb ⊢
    rw [show a + 1 + t = (a + t) + 1 by omega]
    show feed (a + t) (bit (x ^^^ (b + 2 ^ a * 2 * m) % 2)) ((b + 2 ^ a * 2 * m) / 2) = feed t (feed a (bit (x ^^^ b % 2)) (b / 2)) m
    rw [← ih t _ _ m (by omega)]
    have e : 2 ^ a * 2 * m = 2 * (2 ^ a * m) := by rw [Nat.mul_comm (2 ^ a) 2, Nat.mul_assoc]
    rw [e]
    congr 1
    · congr 2; omega
    · omega
theorem feed_skip (k t m : Nat) : feed (k + t) 0 (2 ^ k * m) = feed t 0 m := by
  have h := feed_add k t 0 0 m (Nat.pow_pos (by omega))
  rw [Nat.zero_add] at h
  rw [h, feed_num k 0 0 (Nat.pow_pos (by omega)), Nat.xor_zero]
  congr 1
  have e : ∀ k, bitN k 0 = 0 := by
    intro k
    induction k with
    | zero => rfl
    | succ k ih => show bitN k (bit 0) = 0; exact ih
  exact e k

/-- Bytes as one number, the first the lowest. -/
def num : List UInt8 → Nat
  | [] => 0
  | c :: l => c.toNat + 256 * num l
theorem run_feed (l : List UInt8) : ∀ x, runN x l = feed (8 * l.length) x (num l) := by
  induction l with
  | nil => intro x; rfl
  | cons c l ih =>
    intro x
    show runN (stepN x c.toNat) l = _
    rw [ih, List.length_cons, show 8 * (l.length + 1) = 8 + 8 * l.length by omega]
    show _ = feed (8 + 8 * l.length) x (c.toNat + 2 ^ 8 * num l)
    rw [feed_add 8 _ _ _ _ c.toNat_lt, feed_num 8 x _ c.toNat_lt]
    rfl
theorem num_inj : ∀ a b : List UInt8, a.length = b.length → num a = num b → a = b := by
  intro a
  induction a with
  | nil => intro b hl _; exact (List.eq_nil_of_length_eq_zero (by simpa using hl.symm)).symm
  | cons c a ih =>
    intro b hl h
    match b, hl, h with
    | d :: b, hl, h =>
      have hc := c.toNat_lt
      have hd := d.toNat_lt
      have h' : c.toNat + 256 * num a = d.toNat + 256 * num b := h
      have e1 : c.toNat = d.toNat := by omega
      have e2 : num a = num b := by omega
      rw [UInt8.toNat_inj.1 e1, ih b (by simpa using hl) e2]

theorem xor_low (c d m : Nat) (hc : c < 256) (hd : d < 256) : (c + 256 * m) ^^^ d = (c ^^^ d) + 256 * m := by
  have hx : c ^^^ d < 256 := Nat.xor_lt_two_pow (n := 8) hc hd
  have h1 : ((c + 256 * m) ^^^ d) % 256 = c ^^^ d := by
    have := Nat.xor_mod_two_pow (a := c + 256 * m) (b := d) (n := 8)
    simp only [Nat.reducePow] at this
    rw [this, show (c + 256 * m) % 256 = c by omega, show d % 256 = d by omega]
  have h2 : ((c + 256 * m) ^^^ d) / 256 = m := by
    have := Nat.xor_div_two_pow (a := c + 256 * m) (b := d) (n := 8)
    simp only [Nat.reducePow] at this
    rw [this, show (c + 256 * m) / 256 = m by omega, show d / 256 = 0 by omega, Nat.xor_zero]
  omega
theorem xor_high (c m e : Nat) (hc : c < 256) : (c + 256 * m) ^^^ (256 * e) = c + 256 * (m ^^^ e) := by
  have h1 : ((c + 256 * m) ^^^ (256 * e)) % 256 = c := by
    have := Nat.xor_mod_two_pow (a := c + 256 * m) (b := 256 * e) (n := 8)
    simp only [Nat.reducePow] at this
    rw [this, show (c + 256 * m) % 256 = c by omega, show 256 * e % 256 = 0 by omega, Nat.xor_zero]
  have h2 : ((c + 256 * m) ^^^ (256 * e)) / 256 = m ^^^ e := by
    have := Nat.xor_div_two_pow (a := c + 256 * m) (b := 256 * e) (n := 8)
    simp only [Nat.reducePow] at this
    rw [this, show (c + 256 * m) / 256 = m by omega, show 256 * e / 256 = e by omega]
  omega
theorem num_set (l : List UInt8) : ∀ (j : Nat) (x : UInt8) (d : Nat), (hj : j < l.length) → d < 256 → x.toNat = l[j].toNat ^^^ d → num (l.set j x) = num l ^^^ (2 ^ (8 * j) * d) := by
  induction l with
  | nil => intro j x d hj; simp at hj
  | cons c l ih =>
    intro j x d hj hd hx
    match j, hj, hx with
    | 0, _, hx =>
      have hx' : x.toNat = c.toNat ^^^ d := hx
      show x.toNat + 256 * num l = (c.toNat + 256 * num l) ^^^ _
      rw [hx', Nat.mul_zero, Nat.pow_zero, Nat.one_mul, xor_low _ _ _ c.toNat_lt hd]
    | j + 1, hj, hx =>
      have hj' : j < l.length := by simpa using hj
      have := ih j x d hj' hd hx
      show c.toNat + 256 * num (l.set j x) = (c.toNat + 256 * num l) ^^^ _
      rw [this, show 2 ^ (8 * (j + 1)) * d = 256 * (2 ^ (8 * j) * d) by rw [Nat.mul_add, Nat.pow_add, show (2 : Nat) ^ (8 * 1) = 256 by rfl, Nat.mul_comm (2 ^ (8 * j)) 256, Nat.mul_assoc]]
      rw [xor_high _ _ _ c.toNat_lt]

/-- What is turned behind i of the 32: the bits that lie within the text. -/
def turned (k y L i : Nat) : Nat := (2 ^ k * (y % 2 ^ i)) % 2 ^ L
theorem xor_top (x p : Nat) (h : x < 2 ^ p) : x ^^^ 2 ^ p = x + 2 ^ p := by
  have h1 : (x ^^^ 2 ^ p) % 2 ^ p = x := by
    rw [Nat.xor_mod_two_pow, Nat.mod_eq_of_lt h, Nat.mod_self, Nat.xor_zero]
  have h2 : (x ^^^ 2 ^ p) / 2 ^ p = 1 := by
    rw [Nat.xor_div_two_pow, Nat.div_eq_of_lt h, Nat.div_self (Nat.pow_pos (by omega)), Nat.zero_xor]
  have h3 := Nat.div_add_mod (x ^^^ 2 ^ p) (2 ^ p)
  rw [h1, h2, Nat.mul_one] at h3
  omega
theorem mod_more (y i : Nat) : y % 2 ^ (i + 1) = y % 2 ^ i + 2 ^ i * (y / 2 ^ i % 2) := by rw [Nat.pow_succ, Nat.mod_mul]
theorem turned_lt (k y i : Nat) : 2 ^ k * (y % 2 ^ i) < 2 ^ (k + i) := by
  rw [Nat.pow_add]
  exact Nat.mul_lt_mul_of_pos_left (Nat.mod_lt _ (Nat.pow_pos (by omega))) (Nat.pow_pos (by omega))
theorem turned_flip (k y L i : Nat) (hb : y / 2 ^ i % 2 = 1) (hl : k + i < L) : turned k y L (i + 1) = turned k y L i ^^^ 2 ^ (k + i) := by
  unfold turned
  have hx := turned_lt k y i
  have hle : 2 ^ (k + i + 1) ≤ 2 ^ L := Nat.pow_le_pow_right (by omega) (by omega)
  have hle' : 2 ^ (k + i) + 2 ^ (k + i) ≤ 2 ^ L := by rw [Nat.pow_succ] at hle; omega
  rw [mod_more, hb, Nat.mul_one, Nat.mul_add, ← Nat.pow_add]
  rw [Nat.mod_eq_of_lt (a := 2 ^ k * (y % 2 ^ i) + 2 ^ (k + i)) (by omega), Nat.mod_eq_of_lt (a := 2 ^ k * (y % 2 ^ i)) (by omega), xor_top _ _ hx]
theorem turned_still (k y L i : Nat) (h : y / 2 ^ i % 2 = 0 ∨ L ≤ k + i) : turned k y L (i + 1) = turned k y L i := by
  unfold turned
  rw [mod_more]
  rcases h with h | h
  · rw [h]; simp
  · rw [Nat.mul_add, ← Nat.mul_assoc, ← Nat.pow_add]
    obtain ⟨d, hd⟩ : ∃ d, k + i = L + d := ⟨k + i - L, by omega⟩
    rw [hd, Nat.pow_add, Nat.mul_assoc, Nat.add_mul_mod_self_left]
theorem turned_all (k y L : Nat) (hy : y < 4294967296) (hk : k ≤ L) : turned k y L 32 = 2 ^ k * (y % 2 ^ (L - k)) := by
  unfold turned
  rw [Nat.mod_eq_of_lt (a := y) (by simpa using hy)]
  conv => lhs; rw [show L = k + (L - k) by omega, Nat.pow_add]
  rw [Nat.mul_mod_mul_left]

/-- What is marked leaves this in the register. -/
theorem marked_run (t m : List UInt8) (c : Nat) (hm : num m = c) (hml : m.length = 4) (hc : c < 4294967296) (hv : c = 4294967295 - runN 4294967295 t) : runN 4294967295 (t ++ m) = bitN 32 4294967295 := by
  have hst := runN_lt t 4294967295 (by omega)
  rw [runN_append, run_feed m, hml, hm, feed_num 32 _ _ (by simpa using hc), hv]
  congr 1
  rw [← not32 _ hst]
  generalize runN 4294967295 t = x
  rw [Nat.xor_comm 4294967295 x, ← Nat.xor_assoc, Nat.xor_self, Nat.zero_xor]

/-- Turned by up to 32 bits, one behind the other, it is no longer so. -/
theorem burst (a b : List UInt8) (k y : Nat) (hl : a.length = b.length) (hk : k ≤ 8 * a.length) (hy : y < 4294967296) (hne : b ≠ a)
    (hb : num b = num a ^^^ turned k y (8 * a.length) 32) : runN 4294967295 b ≠ runN 4294967295 a := by
  intro h
  rw [run_feed, run_feed a, ← hl] at h
  have hx := feed_xor (8 * a.length) 4294967295 4294967295 (num b) (num a)
  rw [h, Nat.xor_self, Nat.xor_self, hb, Nat.xor_comm (num a), Nat.xor_assoc, Nat.xor_self, Nat.xor_zero, turned_all k y _ hy hk] at hx
  obtain ⟨t, ht⟩ : ∃ t, 8 * a.length = k + t := ⟨8 * a.length - k, by omega⟩
  rw [ht, feed_skip, show k + t - k = t by omega, feed_num t _ _ (Nat.mod_lt _ (Nat.pow_pos (by omega))), Nat.zero_xor] at hx
  have hz := bitN_zero t _ (Nat.lt_of_le_of_lt (Nat.mod_le _ _) hy) hx
  apply hne
  refine num_inj _ _ hl.symm ?_
  rw [hb, turned_all k y _ hy hk, ht, show k + t - k = t by omega, hz, Nat.mul_zero, Nat.xor_zero]
end Go.Proofs.Ytlochpnifjmefaa
