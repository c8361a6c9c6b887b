/- Walks of tries, Delay, Next, Reset, Jitter.; Walk of layer 18's awake.; YtdojepkmjifoeaaK -/
import Derived.Test.YtdojepkmjifoeaaJ00
import Derived.Test.YtdojepkmjifoeaaJ01
import Derived.Laws.BitsAllLaws
set_option linter.unusedVariables false
set_option linter.unusedSimpArgs false
namespace Go.Proofs.Ytdojepkmjifoeaa.Bk
open Go.RowKit

theorem alloc_below (w : World) (o : Obj) : Below w.heap.size w (w.alloc o) := (Below.refl _ _).alloc (Nat.le_refl _) _

theorem box3 {w w1 : World} {x y z : Value} (h : Below (w.alloc (.cells #[x, y, z] 37)).heap.size (w.alloc (.cells #[x, y, z] 37)) w1) :
    w1.cell? ⟨w.heap.size, 0, none⟩ = some x ∧ w1.cell? ⟨w.heap.size, 1, none⟩ = some y ∧ w1.cell? ⟨w.heap.size, 2, none⟩ = some z :=
  ⟨(h.cell (p := ⟨w.heap.size, 0, none⟩) (by simp)).trans (by simp), (h.cell (p := ⟨w.heap.size, 1, none⟩) (by simp)).trans (by simp), (h.cell (p := ⟨w.heap.size, 2, none⟩) (by simp)).trans (by simp)⟩
theorem bt {w w1 : World} {o : Obj} (h : Below (w.alloc o).heap.size (w.alloc o) w1) : Below w.heap.size w w1 := (alloc_below w o).trans (h.mono (by simp))
theorem bdn (B : Nat) (w : World) (n : Nat) : Below B w (w.drewN n) := ⟨rfl, rfl, rfl, Nat.le_refl _, fun _ _ => rfl⟩
theorem box3b {w w1 : World} {x y z x2 y2 z2 : Value} (h : Below ((w.alloc (.cells #[x, y, z] 37)).alloc (.cells #[x2, y2, z2] 37)).heap.size ((w.alloc (.cells #[x, y, z] 37)).alloc (.cells #[x2, y2, z2] 37)) w1) :
    (w1.cell? ⟨w.heap.size, 0, none⟩ = some x ∧ w1.cell? ⟨w.heap.size, 1, none⟩ = some y ∧ w1.cell? ⟨w.heap.size, 2, none⟩ = some z ∧ w1.frozen? ⟨w.heap.size, 2, none⟩ = false) ∧
    (w1.cell? ⟨w.heap.size + 1, 0, none⟩ = some x2 ∧ w1.cell? ⟨w.heap.size + 1, 1, none⟩ = some y2 ∧ w1.cell? ⟨w.heap.size + 1, 2, none⟩ = some z2) ∧
    w1.frozen? ⟨w.heap.size + 1, 0, none⟩ = false ∧ w1.frozen? ⟨w.heap.size + 1, 1, none⟩ = false ∧ w1.frozen? ⟨w.heap.size + 1, 2, none⟩ = false := by
  refine ⟨⟨?_, ?_, ?_, ?_⟩, ⟨?_, ?_, ?_⟩, ?_, ?_, ?_⟩
  iterate 3 (first | exact (h.cell (by first | (simp; done) | (simp; omega))).trans (by simp) | exact (h.cell (by simp)).trans (by simp))
  · exact (h.frozen (by first | (simp; done) | (simp; omega))).trans (by simp)
  iterate 3 (exact (h.cell (by simp)).trans (by simp))
  iterate 3 (exact (h.frozen (by simp)).trans (by simp))
theorem tries_any (b c t : Int) (w : World) : Calls Try.prog 55 #[.agg #[.int .u64 b, .int .u64 c, .int .i64 t]] w fun e w' => e = .returned (.int .i64 (max t 0)) ∧ Below w.heap.size w w' := by
  go_enter Try.func55, Try.ntmps55
  go_wp2
  go_ret
  exact ⟨rfl, alloc_below _ _⟩

def T64 : Nat := 18446744073709551615
theorem delay_any (b c : Nat) (t : Int) (k : Nat) (hk : max t 0 = (k : Int)) (h64 : k ≤ 64) (hb : b ≤ 18446744073709551615) (hc : c ≤ 18446744073709551615) (w : World) :
    Calls Try.prog 35 #[.agg #[.int .u64 b, .int .u64 c, .int .i64 t]] w fun e w' => e = .returned (.int .u64 (dl b c k : Nat)) ∧ Below w.heap.size w w' := by
  have K1 := Lib.hid (fun w => tries_any b c t w)
  rw [hk] at K1
  clear hk
  have K2 := Lib.hid (fun w => Try.bits_LeadingZeros64 (b : Int) w (by omega) (by omega))
  have hl := len_le b (by omega)
  obtain ⟨z, hz⟩ : ∃ z, z = 64 - Lib.bitLen b := ⟨_, rfl⟩
  have hz2 : (64 - (Lib.bitLen ((b : Int).toNat) : Int)) = (z : Int) := by rw [Int.toNat_natCast]; omega
  rw [hz2] at K2
  clear hz2
  have hzk : b ≠ 0 → (z < k ↔ 64 < k + Lib.bitLen b) := fun _ => by omega
  clear hz hl
  obtain ⟨m, hm⟩ : ∃ m, m = b * 2 ^ k := ⟨_, rfl⟩
  have em : (b : Int) * 2 ^ k = (m : Int) := by rw [hm]; simp
  have W (hs : b * 2 ^ k < 18446744073709551616) : IntKind.u64.wrap (m : Int) = (m : Int) := by
    exact IntWalk.u64_in _ ⟨by omega, by omega⟩
  have E0 : ((dl b c k : Nat) : Int) = min (m : Int) (c : Int) := by unfold dl; rw [← hm]; omega
  by_cases h0 : b = 0
  · have hw := W (dl_small (by omega) (Or.inl h0))
    have q : decide ((0 : Int) < (b : Int)) = false := by rw [decide_eq_false_iff_not]; omega
    have q2 : ¬ (0 : Int) < (b : Int) := by omega
    rw [E0]
    clear hzk W h0 hm E0
    go_enter Try.func35, Try.ntmps35
    go_wp2_with (first
      | (go_at_call 55; ((with_reducible refine (K1.out _).mono ?_); rintro e w1 ⟨rfl, hb1⟩; have HB1 := Lib.hid hb1; obtain ⟨c0, c1, _⟩ := box3 hb1; clear hb1))
      | (go_at_call 56; ((with_reducible refine (K2.out _).mono ?_); rintro e w' ⟨rfl, rfl⟩)))
    go_quiet (fail)
    go_wp2
    go_ret
    exact ⟨rfl, (bt HB1.out).trans (bdn _ _ _)⟩
  · by_cases hg : z < k
    · have hd : dl b c k = c := dl_great (by omega) h0 (by omega) ((hzk h0).1 hg)
      rw [hd]
      have q : decide ((0 : Int) < (b : Int)) = true := by rw [decide_eq_true_iff]; omega
      have q1 : (0 : Int) < (b : Int) := by omega
      clear h0 hd hzk W hm em E0
      go_enter Try.func35, Try.ntmps35
      go_wp2_with (first
        | (go_at_call 55; ((with_reducible refine (K1.out _).mono ?_); rintro e w1 ⟨rfl, hb1⟩; have HB1 := Lib.hid hb1; obtain ⟨c0, c1, _⟩ := box3 hb1; clear hb1))
        | (go_at_call 56; ((with_reducible refine (K2.out _).mono ?_); rintro e w' ⟨rfl, rfl⟩)))
      go_ret
      exact ⟨rfl, bt HB1.out⟩
    · have hw := W (dl_small (by omega) (Or.inr (by have := hzk h0; omega)))
      have q : decide ((0 : Int) < (b : Int)) = true := by rw [decide_eq_true_iff]; omega
      have q1 : (0 : Int) < (b : Int) := by omega
      rw [E0]
      clear h0 hzk W hm E0
      go_enter Try.func35, Try.ntmps35
      go_wp2_with (first
        | (go_at_call 55; ((with_reducible refine (K1.out _).mono ?_); rintro e w1 ⟨rfl, hb1⟩; have HB1 := Lib.hid hb1; obtain ⟨c0, c1, _⟩ := box3 hb1; clear hb1))
        | (go_at_call 56; ((with_reducible refine (K2.out _).mono ?_); rintro e w' ⟨rfl, rfl⟩)))
      go_quiet (fail)
      go_wp2
      go_ret
      exact ⟨rfl, (bt HB1.out).trans (bdn _ _ _)⟩

/-- How often it was, one more. -/
def nx (k : Nat) : Nat := min k 63 + 1
theorem next_any (b c t : Int) (k : Nat) (hk : max t 0 = (k : Int)) (w : World) : Calls Try.prog 36 #[.agg #[.int .u64 b, .int .u64 c, .int .i64 t]] w fun e w' => e = .returned (.agg #[.int .u64 b, .int .u64 c, .int .i64 (nx k : Nat)]) ∧ Below w.heap.size w w' := by
  have K1 := Lib.hid (fun w => tries_any b c t w)
  rw [hk] at K1
  clear hk
  have e : ((nx k : Nat) : Int) = min (k : Int) 63 + 1 := by unfold nx; omega
  rw [e]
  clear e
  obtain ⟨m, hm⟩ : ∃ m : Nat, min (k : Int) 63 = (m : Int) := ⟨min k 63, by omega⟩
  have hm2 : m ≤ 63 := by omega
  go_enter Try.func36, Try.ntmps36
  go_wp2_with (first
    | (go_at_call 55; ((with_reducible refine (K1.out _).mono ?_); rintro e w1 ⟨rfl, hb1⟩; have HB1 := Lib.hid hb1; obtain ⟨⟨c0, c1, c2, fz⟩, ⟨d0, d1, d2⟩, f0, f1, f2⟩ := box3b hb1; clear hb1)))
  refine bodyPost_ret (v := .agg #[.int .u64 b, .int .u64 c, .int .i64 ((m : Int) + 1)]) (by simp [results, Try.results36, go_sem, *]) rfl ⟨by rw [hm], ?_⟩
  exact (((((bt (bt HB1.out)).setCell (Nat.le_refl _) _).setCell (by simp) _).setCell (by simp) _).setCell (by simp) _)
theorem reset_any (b c t : Int) (w : World) : Calls Try.prog 33 #[.agg #[.int .u64 b, .int .u64 c, .int .i64 t]] w fun e w' => e = .returned (.agg #[.int .u64 b, .int .u64 c, .int .i64 0]) ∧ Below w.heap.size w w' := by
  go_enter Try.func33, Try.ntmps33
  go_wp2
  refine bodyPost_ret (v := .agg #[.int .u64 b, .int .u64 c, .int .i64 0]) (by simp [results, Try.results33, go_sem]) rfl ⟨rfl, ?_⟩
  exact bt (alloc_below _ _)
def jit (d x : Nat) : Nat := d / 2 + x % (d - d / 2 + 1)
end Go.Proofs.Ytdojepkmjifoeaa.Bk

namespace Go.Proofs.Ytdojepkmjifoeaa.Bk
open Go.RowKit

theorem d0 (w : World) : Calls Try.prog 35 #[.agg #[.int .u64 3, .int .u64 20, .int .i64 0]] w fun e w' => e = .returned (.int .u64 3) ∧ Below w.heap.size w w' := by
  have h := delay_any 3 20 0 0 rfl (by omega) (by omega) (by omega) w
  rw [show dl 3 20 0 = 3 from rfl] at h
  exact h
theorem d2 (w : World) : Calls Try.prog 35 #[.agg #[.int .u64 3, .int .u64 20, .int .i64 2]] w fun e w' => e = .returned (.int .u64 12) ∧ Below w.heap.size w w' := by
  have h := delay_any 3 20 2 2 rfl (by omega) (by omega) (by omega) w
  rw [show dl 3 20 2 = 12 from rfl] at h
  exact h
theorem d3 (w : World) : Calls Try.prog 35 #[.agg #[.int .u64 3, .int .u64 20, .int .i64 3]] w fun e w' => e = .returned (.int .u64 20) ∧ Below w.heap.size w w' := by
  have h := delay_any 3 20 3 3 rfl (by omega) (by omega) (by omega) w
  rw [show dl 3 20 3 = 20 from rfl] at h
  exact h
theorem n0 (w : World) : Calls Try.prog 36 #[.agg #[.int .u64 3, .int .u64 20, .int .i64 0]] w fun e w' => e = .returned (.agg #[.int .u64 3, .int .u64 20, .int .i64 1]) ∧ Below w.heap.size w w' := next_any 3 20 0 0 rfl w
theorem n1 (w : World) : Calls Try.prog 36 #[.agg #[.int .u64 3, .int .u64 20, .int .i64 1]] w fun e w' => e = .returned (.agg #[.int .u64 3, .int .u64 20, .int .i64 2]) ∧ Below w.heap.size w w' := next_any 3 20 1 1 rfl w
theorem n2 (w : World) : Calls Try.prog 36 #[.agg #[.int .u64 3, .int .u64 20, .int .i64 2]] w fun e w' => e = .returned (.agg #[.int .u64 3, .int .u64 20, .int .i64 3]) ∧ Below w.heap.size w w' := next_any 3 20 2 2 rfl w
set_option maxHeartbeats 1000000 in
theorem awake18_any (w : World) : Calls Try.prog 39 #[] w fun e w' => e = .returned (.bool true) ∧ Below w.heap.size w w' := by
  have K10 := Lib.hid (fun w => awake1_any w)
  have A0 := Lib.hid (fun w => d0 w)
  have A2 := Lib.hid (fun w => d2 w)
  have A3 := Lib.hid (fun w => d3 w)
  have N0 := Lib.hid (fun w => n0 w)
  have N1 := Lib.hid (fun w => n1 w)
  have N2 := Lib.hid (fun w => n2 w)
  have HB := Lib.hid (Below.refl (w.alloc (.cells #[.int .u64 3, .int .u64 20, .int .i64 0] 37)).heap.size (w.alloc (.cells #[.int .u64 3, .int .u64 20, .int .i64 0] 37)))
  go_enter Try.func39, Try.ntmps39
  go_wp2_with (first
    | (go_at_call 58; ((with_reducible refine (K10.out _).mono ?_); rintro e w1 ⟨rfl, hk⟩; replace HB := Lib.hid (HB.out.trans (hk.mono HB.out.size)); obtain ⟨c0, c1, c2⟩ := box3 HB.out; clear hk))
    | (go_at_call 35; (first
        | ((with_reducible refine (A0.out _).mono ?_); rintro e w1 ⟨rfl, hk⟩; replace HB := Lib.hid (HB.out.trans (hk.mono HB.out.size)); obtain ⟨c0, c1, c2⟩ := box3 HB.out; clear hk)
        | ((with_reducible refine (A2.out _).mono ?_); rintro e w1 ⟨rfl, hk⟩; replace HB := Lib.hid (HB.out.trans (hk.mono HB.out.size)); obtain ⟨c0, c1, c2⟩ := box3 HB.out; clear hk)
        | ((with_reducible refine (A3.out _).mono ?_); rintro e w1 ⟨rfl, hk⟩; replace HB := Lib.hid (HB.out.trans (hk.mono HB.out.size)); obtain ⟨c0, c1, c2⟩ := box3 HB.out; clear hk)))
    | (go_at_call 36; (first
        | ((with_reducible refine (N0.out _).mono ?_); rintro e w1 ⟨rfl, hk⟩; replace HB := Lib.hid (HB.out.trans (hk.mono HB.out.size)); obtain ⟨c0, c1, c2⟩ := box3 HB.out; clear hk)
        | ((with_reducible refine (N1.out _).mono ?_); rintro e w1 ⟨rfl, hk⟩; replace HB := Lib.hid (HB.out.trans (hk.mono HB.out.size)); obtain ⟨c0, c1, c2⟩ := box3 HB.out; clear hk)
        | ((with_reducible refine (N2.out _).mono ?_); rintro e w1 ⟨rfl, hk⟩; replace HB := Lib.hid (HB.out.trans (hk.mono HB.out.size)); obtain ⟨c0, c1, c2⟩ := box3 HB.out; clear hk))))
  go_ret
  exact ⟨rfl, bt HB.out⟩
end Go.Proofs.Ytdojepkmjifoeaa.Bk

namespace Go.Proofs.Ytdojepkmjifoeaa

/-- The CRC's polynomial. -/
def poly : Nat := 2197175160
/-- One bit of the register. -/
def bit (n : Nat) : Nat := if n % 2 = 1 then n / 2 ^^^ poly else n / 2
/-- So many bits. -/
def bitN : Nat → Nat → Nat
  | 0, n => n
  | k + 1, n => bitN k (bit n)
/-- One byte. -/
def stepN (n c : Nat) : Nat := bitN 8 (n ^^^ c)
/-- Bytes, one behind the other. -/
def runN (n : Nat) (l : List UInt8) : Nat := l.foldl (fun n c => stepN n c.toNat) n

theorem xor_lt (a b : Nat) (ha : a < 4294967296) (hb : b < 4294967296) : a ^^^ b < 4294967296 := Nat.xor_lt_two_pow (n := 32) ha hb
theorem bit_lt (n : Nat) (h : n < 4294967296) : bit n < 4294967296 := by
  unfold bit; split
  · exact xor_lt _ _ (by omega) (by unfold poly; omega)
  · omega
theorem bitN_lt (k : Nat) : ∀ n, n < 4294967296 → bitN k n < 4294967296 := by
  induction k with
  | zero => intro n h; exact h
  | succ k ih => intro n h; exact ih _ (bit_lt n h)
theorem stepN_lt (n c : Nat) (h : n < 4294967296) (hc : c < 256) : stepN n c < 4294967296 := bitN_lt 8 _ (xor_lt _ _ h (by omega))
theorem runN_lt (l : List UInt8) : ∀ n, n < 4294967296 → runN n l < 4294967296 := by
  induction l with
  | nil => intro n h; exact h
  | cons c l ih => intro n h; exact ih _ (stepN_lt n _ h c.toNat_lt)
theorem runN_append (n : Nat) (a b : List UInt8) : runN n (a ++ b) = runN (runN n a) b := by simp [runN]
theorem runN_snoc (n : Nat) (a : List UInt8) (c : UInt8) : runN n (a ++ [c]) = stepN (runN n a) c.toNat := by simp [runN]

theorem xor_mod2 (a b : Nat) : (a ^^^ b) % 2 = (a % 2 + b % 2) % 2 := by
  have := Nat.xor_mod_two_pow (a := a) (b := b) (n := 1)
  simp only [Nat.pow_one] at this
  rw [this]
  rcases Nat.mod_two_eq_zero_or_one a with h | h <;> rcases Nat.mod_two_eq_zero_or_one b with h' | h' <;> rw [h, h'] <;> rfl
theorem xor_div2 (a b : Nat) : (a ^^^ b) / 2 = a / 2 ^^^ b / 2 := by
  have := Nat.xor_div_two_pow (a := a) (b := b) (n := 1)
  simpa using this

/-- A bit of two registers together. -/
theorem bit_xor (a b : Nat) : bit (a ^^^ b) = bit a ^^^ bit b := by
  have h1 := xor_mod2 a b
  have h2 := xor_div2 a b
  unfold bit
  rw [h2]
  rcases Nat.mod_two_eq_zero_or_one a with ha | ha <;> rcases Nat.mod_two_eq_zero_or_one b with hb | hb
  · rw [if_neg (by omega), if_neg (by omega), if_neg (by omega)]
  · rw [if_pos (by omega), if_neg (by omega), if_pos (by omega), Nat.xor_assoc]
  · rw [if_pos (by omega), if_pos (by omega), if_neg (by omega)]
    rw [Nat.xor_assoc, Nat.xor_assoc, Nat.xor_comm (b / 2) poly]
  · rw [if_neg (by omega), if_pos (by omega), if_pos (by omega)]
    rw [Nat.xor_assoc, ← Nat.xor_assoc poly, Nat.xor_comm poly (b / 2), Nat.xor_assoc (b / 2), Nat.xor_self, Nat.xor_zero]
theorem bitN_xor (k : Nat) : ∀ a b, bitN k (a ^^^ b) = bitN k a ^^^ bitN k b := by
  induction k with
  | zero => intro a b; rfl
  | succ k ih => intro a b; show bitN k (bit (a ^^^ b)) = _; rw [bit_xor, ih]; rfl
theorem bit_zero (n : Nat) (h : n < 4294967296) (hb : bit n = 0) : n = 0 := by
  unfold bit at hb
  split at hb
  · exfalso
    have h1 : (n / 2 ^^^ poly) / 2147483648 = (n / 2) / 2147483648 ^^^ poly / 2147483648 := by
      simpa using Nat.xor_div_two_pow (a := n / 2) (b := poly) (n := 31)
    rw [hb] at h1
    rw [Nat.div_eq_of_lt (a := n / 2) (by omega)] at h1
    unfold poly at h1
    simp at h1
  · omega
theorem bitN_zero (k : Nat) : ∀ n, n < 4294967296 → bitN k n = 0 → n = 0 := by
  induction k with
  | zero => intro n _ h; exact h
  | succ k ih => intro n hn h; exact bit_zero n hn (ih _ (bit_lt n hn) h)
theorem xor_eq_zero (a b : Nat) (h : a ^^^ b = 0) : a = b := by
  have : a ^^^ b ^^^ b = b := by rw [h, Nat.zero_xor]
  rw [Nat.xor_assoc, Nat.xor_self, Nat.xor_zero] at this
  exact this
theorem bitN_inj (k a b : Nat) (ha : a < 4294967296) (hb : b < 4294967296) (h : bitN k a = bitN k b) : a = b := by
  refine xor_eq_zero a b (bitN_zero k _ (xor_lt a b ha hb) ?_)
  rw [bitN_xor, h, Nat.xor_self]
theorem xor_cancel (a b c : Nat) (h : a ^^^ c = b ^^^ c) : a = b := by
  have := congrArg (· ^^^ c) h
  simpa [Nat.xor_assoc, Nat.xor_self, Nat.xor_zero] using this
theorem xor_cancel' (a b c : Nat) (h : c ^^^ a = c ^^^ b) : a = b := by
  rw [Nat.xor_comm c a, Nat.xor_comm c b] at h; exact xor_cancel a b c h
theorem stepN_inj (a b c : Nat) (ha : a < 4294967296) (hb : b < 4294967296) (hc : c < 256) (h : stepN a c = stepN b c) : a = b :=
  xor_cancel a b c (bitN_inj 8 _ _ (xor_lt _ _ ha (by omega)) (xor_lt _ _ hb (by omega)) h)
theorem stepN_inj' (a c d : Nat) (ha : a < 4294967296) (hc : c < 256) (hd : d < 256) (h : stepN a c = stepN a d) : c = d :=
  xor_cancel' c d a (bitN_inj 8 _ _ (xor_lt _ _ ha (by omega)) (xor_lt _ _ ha (by omega)) h)
theorem runN_inj (l : List UInt8) : ∀ a b, a < 4294967296 → b < 4294967296 → runN a l = runN b l → a = b := by
  induction l with
  | nil => intro a b _ _ h; exact h
  | cons c l ih =>
    intro a b ha hb h
    exact stepN_inj a b _ ha hb c.toNat_lt (ih _ _ (stepN_lt a _ ha c.toNat_lt) (stepN_lt b _ hb c.toNat_lt) h)

theorem not32 (x : Nat) (h : x < 4294967296) : 4294967295 ^^^ x = 4294967295 - x := by
  have h1 : (~~~ (BitVec.ofNat 32 x)).toNat = 2 ^ 32 - 1 - (BitVec.ofNat 32 x).toNat := BitVec.toNat_not
  rw [BitVec.not_def, BitVec.toNat_xor, BitVec.toNat_allOnes, BitVec.toNat_ofNat, Nat.mod_eq_of_lt (by simpa using h)] at h1
  simpa using h1

/-! ### The quick sum -/
def quickStep (n c : Nat) : Nat := (n ^^^ c) * 1099511628211 % 18446744073709551616
def quickRun (n : Nat) (l : List UInt8) : Nat := l.foldl (fun n c => quickStep n c.toNat) n
theorem quickStep_lt (n c : Nat) : quickStep n c < 18446744073709551616 := Nat.mod_lt _ (by omega)
theorem quickRun_lt (l : List UInt8) : ∀ n, n < 18446744073709551616 → quickRun n l < 18446744073709551616 := by
  induction l with
  | nil => intro n h; exact h
  | cons c l ih => intro n _; exact ih _ (quickStep_lt n _)
theorem quickRun_append (n : Nat) (a b : List UInt8) : quickRun n (a ++ b) = quickRun (quickRun n a) b := List.foldl_append
theorem quickRun_snoc (n : Nat) (a : List UInt8) (c : UInt8) : quickRun n (a ++ [c]) = quickStep (quickRun n a) c.toNat := by
  rw [quickRun_append]
  generalize quickRun n a = m
  unfold quickRun
  rw [List.foldl_cons, List.foldl_nil]
theorem xor_lt64 (a b : Nat) (ha : a < 18446744073709551616) (hb : b < 18446744073709551616) : a ^^^ b < 18446744073709551616 := Nat.xor_lt_two_pow (n := 64) ha hb
theorem mul_inj_gen (M p q k x y : Nat) (hk : p * q = k * M + 1) (hx : x < M) (hy : y < M) (h : x * p % M = y * p % M) : x = y := by
  have e : ∀ z : Nat, z < M → z * p % M * q % M = z := by
    intro z hz
    rw [Nat.mod_mul_mod, Nat.mul_assoc, hk, Nat.mul_add, Nat.mul_one, ← Nat.mul_assoc, Nat.mul_add_mod_self_right, Nat.mod_eq_of_lt hz]
  rw [← e x hx, ← e y hy, h]
theorem mul_inj (x y : Nat) (hx : x < 18446744073709551616) (hy : y < 18446744073709551616) (h : x * 1099511628211 % 18446744073709551616 = y * 1099511628211 % 18446744073709551616) : x = y :=
  mul_inj_gen 18446744073709551616 1099511628211 14886173955864302971 887285111055 x y (by decide) hx hy h
theorem quickStep_inj (a b c : Nat) (ha : a < 18446744073709551616) (hb : b < 18446744073709551616) (hc : c < 256) (h : quickStep a c = quickStep b c) : a = b :=
  xor_cancel a b c (mul_inj _ _ (xor_lt64 _ _ ha (by omega)) (xor_lt64 _ _ hb (by omega)) h)
theorem quickStep_inj' (a c d : Nat) (ha : a < 18446744073709551616) (hc : c < 256) (hd : d < 256) (h : quickStep a c = quickStep a d) : c = d :=
  xor_cancel' c d a (mul_inj _ _ (xor_lt64 _ _ ha (by omega)) (xor_lt64 _ _ ha (by omega)) h)
theorem quickRun_inj (l : List UInt8) : ∀ a b, a < 18446744073709551616 → b < 18446744073709551616 → quickRun a l = quickRun b l → a = b := by
  induction l with
  | nil => intro a b _ _ h; exact h
  | cons c l ih =>
    intro a b ha hb h
    have h' : quickRun (quickStep a c.toNat) l = quickRun (quickStep b c.toNat) l := by
      simp only [quickRun, List.foldl_cons] at h ⊢
      exact h
    have h2 := ih (quickStep a c.toNat) (quickStep b c.toNat) (quickStep_lt a c.toNat) (quickStep_lt b c.toNat) h'
    have hc := c.toNat_lt
    generalize c.toNat = d at *
    exact quickStep_inj a b d ha hb hc h2
end Go.Proofs.Ytdojepkmjifoeaa
