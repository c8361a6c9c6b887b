/- YtdojepkmjifoeaaT; YtdojepkmjifoeaaX; What of stage 1's texts serves frames too: marks that are one, bits turned, kinds of numbers. -/
import Derived.Test.YtdojepkmjifoeaaJ05
import Derived.Test.YtdojepkmjifoeaaJ02
set_option linter.unusedVariables false
set_option linter.unusedSimpArgs false
namespace Go.Proofs.Ytdojepkmjifoeaa
open Go.RowKit

/-- Block g begins with these bytes; none is frozen. -/
def Bts (w : World) (g : Nat) (l : List UInt8) : Prop :=
  ∀ j, j < l.length → w.cell? ⟨g, j, none⟩ = some (.int .u8 ((l.getD j 0).toNat : Int)) ∧ w.frozen? ⟨g, j, none⟩ = false

theorem Bts.lt {w : World} {g : Nat} {l : List UInt8} (h : Bts w g l) (hl : 0 < l.length) : g < w.heap.size := by
  have := (h 0 hl).1
  rcases Nat.lt_or_ge g w.heap.size with hlt | hge
  · exact hlt
  · simp [World.cell?, Array.getElem?_eq_none hge] at this
theorem Bts.alloc {w : World} {g : Nat} {l : List UInt8} (h : Bts w g l) (o : Obj) : Bts (w.alloc o) g l := by
  intro j hj
  have hlt := h.lt (by omega)
  obtain ⟨h1, h2⟩ := h j hj
  have hb := Below.heap_alloc w o g hlt
  exact ⟨(World.cell?_of_block (w := w) hb).trans h1, (World.frozen?_of_block (w := w) hb).trans h2⟩
theorem Bts.drewN {w : World} {g : Nat} {l : List UInt8} (h : Bts w g l) (n : Nat) : Bts (w.drewN n) g l := h
theorem Bts.below {w w' : World} {B g : Nat} {l : List UInt8} (h : Bts w g l) (hb : Below B w w') (hg : g < B) : Bts w' g l := by
  intro j hj
  obtain ⟨h1, h2⟩ := h j hj
  exact ⟨(hb.cell (p := ⟨g, j, none⟩) hg).trans h1, (hb.frozen (p := ⟨g, j, none⟩) hg).trans h2⟩
theorem Bts.set {w : World} {g : Nat} {l : List UInt8} (h : Bts w g l) (k : Nat) (hk : k < l.length) (c : Int) (x : UInt8) (hc : c = (x.toNat : Int)) : Bts (w.setCell ⟨g, k, none⟩ (.int .u8 c)) g (l.set k x) := by
  subst hc
  intro j hj
  rw [List.length_set] at hj
  obtain ⟨h1, h2⟩ := h j hj
  by_cases e : j = k
  · subst e
    refine ⟨?_, ?_⟩
    · have := (h j hj).1
      rw [World.cell?_setCell_same w _ _ this]
      simp [List.getD, hj]
    · rw [World.frozen?_setCell]; exact h2
  · refine ⟨?_, ?_⟩
    · rw [World.cell?_setCell_other w _ _ _ (by intro he; injection he with _ he _; exact e he.symm), h1]
      simp [List.getD, Ne.symm e]
    · rw [World.frozen?_setCell]; exact h2

theorem Bts.string {w : World} {g cap : Nat} {l : List UInt8} (h : Bts w g l) :
    (convert 94 9 (.slice (some ⟨g, 0, none⟩) l.length cap)).run Try.prog w = .ok (.string (str l)) w := by
  refine run_convert_bytes_back (P := Try.prog) w 94 9 5 ⟨g, 0, none⟩ cap l Try.underlying94 Try.underlying5 Try.underlying9 ?_
  intro j hj
  have := (h j hj).1
  rw [show (⟨g, 0, none⟩ : Addr).add j = ⟨g, j, none⟩ by simp [Addr.add]; intro e; exact e.symm, this]
  simp [List.getD, hj]

/-- '[]byte(s)'. -/
theorem bytes_of (w : World) (s : ByteArray) : ∃ cap w', (convert 9 94 (.string s)).run Try.prog w = .ok (.slice (some ⟨w.heap.size, 0, none⟩) s.size cap) w' ∧ Bts w' w.heap.size s.data.toList ∧ Below w.heap.size w w' ∧ w.heap.size < w'.heap.size := by
  refine ⟨_, _, run_bytes_of_string w 9 94 5 s Try.underlying9 Try.underlying94 Try.underlying5, ?_, ?_, ?_⟩
  · intro j hj
    have hc := grownCap_ge w s.size 0 5
    have hj' : j < s.size := by simpa using hj
    generalize grownCap w s.size 0 5 = cap at *
    refine ⟨?_, ?_⟩
    · have h := World.cell?_alloc_mark w.drew (bytesRow s cap) 5 ((bytesRow s cap).size, (bytesRow s cap).size + 1) j
      refine h.trans ?_
      rw [bytesRow, Array.getElem?_append_left (by simpa using hj'), Array.getElem?_map]
      have hd : j < s.data.size := hj'
      rw [Array.getElem?_eq_getElem hd]
      simp [List.getD]
      rw [Array.getElem?_eq_getElem hd]
      rfl
    · have h := World.frozen?_alloc_mark w.drew (bytesRow s cap) 5 (bytesRow s cap).size ((bytesRow s cap).size + 1) j
      refine h.trans ?_
      have : s.size ≤ (bytesRow s cap).size := by
        rw [bytesRow, Array.size_append, Array.size_map]; exact Nat.le_add_right _ _
      simp; omega
  · exact ((Below.refl _ w).drew).alloc (Nat.le_refl _) _
  · simp
end Go.Proofs.Ytdojepkmjifoeaa

namespace Go.Proofs.Ytdojepkmjifoeaa

/-- So many bits of a number, from the lowest on, are fed to the register. -/
def feed : Nat → Nat → Nat → Nat
  | 0, x, _ => x
  | t + 1, x, m => feed t (bit (x ^^^ m % 2)) (m / 2)

theorem xor_mod2' (a b : Nat) : (a ^^^ b) % 2 = a % 2 ^^^ b % 2 := by
  have := Nat.xor_mod_two_pow (a := a) (b := b) (n := 1)
  simpa only [Nat.pow_one] using this
theorem xor_swap (x y a b : Nat) : x ^^^ y ^^^ (a ^^^ b) = x ^^^ a ^^^ (y ^^^ b) := by
  rw [Nat.xor_assoc, ← Nat.xor_assoc y, Nat.xor_comm y a, Nat.xor_assoc a, ← Nat.xor_assoc x]

theorem feed_xor (t : Nat) : ∀ x y a b, feed t (x ^^^ y) (a ^^^ b) = feed t x a ^^^ feed t y b := by
  induction t with
  | zero => intro x y a b; rfl
  | succ t ih =>
    intro x y a b
    show feed t (bit (x ^^^ y ^^^ (a ^^^ b) % 2)) ((a ^^^ b) / 2) = _
    rw [xor_mod2', xor_div2, xor_swap, bit_xor, ih]
    rfl
theorem bit_even2 (c : Nat) : bit (2 * c) = c := by
  unfold bit; rw [if_neg (by omega)]; omega
theorem split2 (b : Nat) : b % 2 ^^^ 2 * (b / 2) = b := by
  have h1 : (b % 2 ^^^ 2 * (b / 2)) % 2 = b % 2 := by
    have h := xor_mod2 (b % 2) (2 * (b / 2)); omega
  have h2 : (b % 2 ^^^ 2 * (b / 2)) / 2 = b / 2 := by
    rw [xor_div2, show b % 2 / 2 = 0 by omega, Nat.zero_xor]; omega
  omega
theorem feed_num (t : Nat) : ∀ x b, b < 2 ^ t → feed t x b = bitN t (x ^^^ b) := by
  induction t with
  | zero => intro x b hb; rw [show b = 0 by omega, Nat.xor_zero]; rfl
  | succ t ih =>
    intro x b hb
    show feed t (bit (x ^^^ b % 2)) (b / 2) = bitN t (bit (x ^^^ b))
    rw [ih _ _ (by rw [Nat.pow_succ] at hb; omega)]
    congr 1
    have h := congrArg (fun z => bit (x ^^^ z)) (split2 b)
    rw [← h, ← Nat.xor_assoc, bit_xor (x ^^^ b % 2), bit_even2]
theorem feed_add (a : Nat) : ∀ t x b m, b < 2 ^ a → feed (a + t) x (b + 2 ^ a * m) = feed t (feed a x b) m := by
  induction a with
  | zero =>
    intro t x b m hb
    rw [show b = 0 by omega]; simp [feed]
  | succ a ih =>
    intro t x b m hb
    rw [Nat.pow_succ] at hb ⊢
    rw [show a + 1 + t = (a + t) + 1 by omega]
    show feed (a + t) (bit (x ^^^ (b + 2 ^ a * 2 * m) % 2)) ((b + 2 ^ a * 2 * m) / 2) = feed t (feed a (bit (x ^^^ b % 2)) (b / 2)) m
    rw [← ih t _ _ m (by omega)]
    have e : 2 ^ a * 2 * m = 2 * (2 ^ a * m) := by rw [Nat.mul_comm (2 ^ a) 2, Nat.mul_assoc]
    rw [e]
    congr 1
    · congr 2; omega
    · omega
theorem feed_skip (k t m : Nat) : feed (k + t) 0 (2 ^ k * m) = feed t 0 m := by
  have h := feed_add k t 0 0 m (Nat.pow_pos (by omega))
  rw [Nat.zero_add] at h
  rw [h, feed_num k 0 0 (Nat.pow_pos (by omega)), Nat.xor_zero]
  congr 1
  have e : ∀ k, bitN k 0 = 0 := by
    intro k
    induction k with
    | zero => rfl
    | succ k ih => show bitN k (bit 0) = 0; exact ih
  exact e k

/-- Bytes as one number, the first the lowest. -/
def num : List UInt8 → Nat
  | [] => 0
  | c :: l => c.toNat + 256 * num l
theorem run_feed (l : List UInt8) : ∀ x, runN x l = feed (8 * l.length) x (num l) := by
  induction l with
  | nil => intro x; rfl
  | cons c l ih =>
    intro x
    show runN (stepN x c.toNat) l = _
    rw [ih, List.length_cons, show 8 * (l.length + 1) = 8 + 8 * l.length by omega]
    show _ = feed (8 + 8 * l.length) x (c.toNat + 2 ^ 8 * num l)
    rw [feed_add 8 _ _ _ _ c.toNat_lt, feed_num 8 x _ c.toNat_lt]
    rfl
theorem num_inj : ∀ a b : List UInt8, a.length = b.length → num a = num b → a = b := by
  intro a
  induction a with
  | nil => intro b hl _; exact (List.eq_nil_of_length_eq_zero (by simpa using hl.symm)).symm
  | cons c a ih =>
    intro b hl h
    match b, hl, h with
    | d :: b, hl, h =>
      have hc := c.toNat_lt
      have hd := d.toNat_lt
      have h' : c.toNat + 256 * num a = d.toNat + 256 * num b := h
      have e1 : c.toNat = d.toNat := by omega
      have e2 : num a = num b := by omega
      rw [UInt8.toNat_inj.1 e1, ih b (by simpa using hl) e2]

theorem xor_low (c d m : Nat) (hc : c < 256) (hd : d < 256) : (c + 256 * m) ^^^ d = (c ^^^ d) + 256 * m := by
  have hx : c ^^^ d < 256 := Nat.xor_lt_two_pow (n := 8) hc hd
  have h1 : ((c + 256 * m) ^^^ d) % 256 = c ^^^ d := by
    have := Nat.xor_mod_two_pow (a := c + 256 * m) (b := d) (n := 8)
    simp only [Nat.reducePow] at this
    rw [this, show (c + 256 * m) % 256 = c by omega, show d % 256 = d by omega]
  have h2 : ((c + 256 * m) ^^^ d) / 256 = m := by
    have := Nat.xor_div_two_pow (a := c + 256 * m) (b := d) (n := 8)
    simp only [Nat.reducePow] at this
    rw [this, show (c + 256 * m) / 256 = m by omega, show d / 256 = 0 by omega, Nat.xor_zero]
  omega
theorem xor_high (c m e : Nat) (hc : c < 256) : (c + 256 * m) ^^^ (256 * e) = c + 256 * (m ^^^ e) := by
  have h1 : ((c + 256 * m) ^^^ (256 * e)) % 256 = c := by
    have := Nat.xor_mod_two_pow (a := c + 256 * m) (b := 256 * e) (n := 8)
    simp only [Nat.reducePow] at this
    rw [this, show (c + 256 * m) % 256 = c by omega, show 256 * e % 256 = 0 by omega, Nat.xor_zero]
  have h2 : ((c + 256 * m) ^^^ (256 * e)) / 256 = m ^^^ e := by
    have := Nat.xor_div_two_pow (a := c + 256 * m) (b := 256 * e) (n := 8)
    simp only [Nat.reducePow] at this
    rw [this, show (c + 256 * m) / 256 = m by omega, show 256 * e / 256 = e by omega]
  omega
theorem num_set (l : List UInt8) : ∀ (j : Nat) (x : UInt8) (d : Nat), (hj : j < l.length) → d < 256 → x.toNat = l[j].toNat ^^^ d → num (l.set j x) = num l ^^^ (2 ^ (8 * j) * d) := by
  induction l with
  | nil => intro j x d hj; simp at hj
  | cons c l ih =>
    intro j x d hj hd hx
    match j, hj, hx with
    | 0, _, hx =>
      have hx' : x.toNat = c.toNat ^^^ d := hx
      show x.toNat + 256 * num l = (c.toNat + 256 * num l) ^^^ _
      rw [hx', Nat.mul_zero, Nat.pow_zero, Nat.one_mul, xor_low _ _ _ c.toNat_lt hd]
    | j + 1, hj, hx =>
      have hj' : j < l.length := by simpa using hj
      have := ih j x d hj' hd hx
      show c.toNat + 256 * num (l.set j x) = (c.toNat + 256 * num l) ^^^ _
      rw [this, show 2 ^ (8 * (j + 1)) * d = 256 * (2 ^ (8 * j) * d) by rw [Nat.mul_add, Nat.pow_add, show (2 : Nat) ^ (8 * 1) = 256 by rfl, Nat.mul_comm (2 ^ (8 * j)) 256, Nat.mul_assoc]]
      rw [xor_high _ _ _ c.toNat_lt]

/-- What is turned behind i of the 32: the bits that lie within the text. -/
def turned (k y L i : Nat) : Nat := (2 ^ k * (y % 2 ^ i)) % 2 ^ L
theorem xor_top (x p : Nat) (h : x < 2 ^ p) : x ^^^ 2 ^ p = x + 2 ^ p := by
  have h1 : (x ^^^ 2 ^ p) % 2 ^ p = x := by
    rw [Nat.xor_mod_two_pow, Nat.mod_eq_of_lt h, Nat.mod_self, Nat.xor_zero]
  have h2 : (x ^^^ 2 ^ p) / 2 ^ p = 1 := by
    rw [Nat.xor_div_two_pow, Nat.div_eq_of_lt h, Nat.div_self (Nat.pow_pos (by omega)), Nat.zero_xor]
  have h3 := Nat.div_add_mod (x ^^^ 2 ^ p) (2 ^ p)
  rw [h1, h2, Nat.mul_one] at h3
  omega
theorem mod_more (y i : Nat) : y % 2 ^ (i + 1) = y % 2 ^ i + 2 ^ i * (y / 2 ^ i % 2) := by rw [Nat.pow_succ, Nat.mod_mul]
theorem turned_lt (k y i : Nat) : 2 ^ k * (y % 2 ^ i) < 2 ^ (k + i) := by
  rw [Nat.pow_add]
  exact Nat.mul_lt_mul_of_pos_left (Nat.mod_lt _ (Nat.pow_pos (by omega))) (Nat.pow_pos (by omega))
theorem turned_flip (k y L i : Nat) (hb : y / 2 ^ i % 2 = 1) (hl : k + i < L) : turned k y L (i + 1) = turned k y L i ^^^ 2 ^ (k + i) := by
  unfold turned
  have hx := turned_lt k y i
  have hle : 2 ^ (k + i + 1) ≤ 2 ^ L := Nat.pow_le_pow_right (by omega) (by omega)
  have hle' : 2 ^ (k + i) + 2 ^ (k + i) ≤ 2 ^ L := by rw [Nat.pow_succ] at hle; omega
  rw [mod_more, hb, Nat.mul_one, Nat.mul_add, ← Nat.pow_add]
  rw [Nat.mod_eq_of_lt (a := 2 ^ k * (y % 2 ^ i) + 2 ^ (k + i)) (by omega), Nat.mod_eq_of_lt (a := 2 ^ k * (y % 2 ^ i)) (by omega), xor_top _ _ hx]
theorem turned_still (k y L i : Nat) (h : y / 2 ^ i % 2 = 0 ∨ L ≤ k + i) : turned k y L (i + 1) = turned k y L i := by
  unfold turned
  rw [mod_more]
  rcases h with h | h
  · rw [h]; simp
  · rw [Nat.mul_add, ← Nat.mul_assoc, ← Nat.pow_add]
    obtain ⟨d, hd⟩ : ∃ d, k + i = L + d := ⟨k + i - L, by omega⟩
    rw [hd, Nat.pow_add, Nat.mul_assoc, Nat.add_mul_mod_self_left]
theorem turned_all (k y L : Nat) (hy : y < 4294967296) (hk : k ≤ L) : turned k y L 32 = 2 ^ k * (y % 2 ^ (L - k)) := by
  unfold turned
  rw [Nat.mod_eq_of_lt (a := y) (by simpa using hy)]
  conv => lhs; rw [show L = k + (L - k) by omega, Nat.pow_add]
  rw [Nat.mul_mod_mul_left]

/-- What is marked leaves this in the register. -/
theorem marked_run (t m : List UInt8) (c : Nat) (hm : num m = c) (hml : m.length = 4) (hc : c < 4294967296) (hv : c = 4294967295 - runN 4294967295 t) : runN 4294967295 (t ++ m) = bitN 32 4294967295 := by
  have hst := runN_lt t 4294967295 (by omega)
  rw [runN_append, run_feed m, hml, hm, feed_num 32 _ _ (by simpa using hc), hv]
  congr 1
  rw [← not32 _ hst]
  generalize runN 4294967295 t = x
  rw [Nat.xor_comm 4294967295 x, ← Nat.xor_assoc, Nat.xor_self, Nat.zero_xor]

/-- Turned by up to 32 bits, one behind the other, it is no longer so. -/
theorem burst (a b : List UInt8) (k y : Nat) (hl : a.length = b.length) (hk : k ≤ 8 * a.length) (hy : y < 4294967296) (hne : b ≠ a)
    (hb : num b = num a ^^^ turned k y (8 * a.length) 32) : runN 4294967295 b ≠ runN 4294967295 a := by
  intro h
  rw [run_feed, run_feed a, ← hl] at h
  have hx := feed_xor (8 * a.length) 4294967295 4294967295 (num b) (num a)
  rw [h, Nat.xor_self, Nat.xor_self, hb, Nat.xor_comm (num a), Nat.xor_assoc, Nat.xor_self, Nat.xor_zero, turned_all k y _ hy hk] at hx
  obtain ⟨t, ht⟩ : ∃ t, 8 * a.length = k + t := ⟨8 * a.length - k, by omega⟩
  rw [ht, feed_skip, show k + t - k = t by omega, feed_num t _ _ (Nat.mod_lt _ (Nat.pow_pos (by omega))), Nat.zero_xor] at hx
  have hz := bitN_zero t _ (Nat.lt_of_le_of_lt (Nat.mod_le _ _) hy) hx
  apply hne
  refine num_inj _ _ hl.symm ?_
  rw [hb, turned_all k y _ hy hk, ht, show k + t - k = t by omega, hz, Nat.mul_zero, Nat.xor_zero]
end Go.Proofs.Ytdojepkmjifoeaa

namespace Go.Proofs.Ytdojepkmjifoeaa
open Go.RowKit
/-- A text of four bytes or more is its head and its last four. -/
theorem mark_iff (t : ByteArray) (n : Nat) (_hn : t.size = n + 4) : markL (t.extract 0 n).data.toList = t.data.toList ↔ (t.extract n t.size).toList = le4 (crcV (t.extract 0 n).data.toList) := by
  have h1 : (t.extract 0 n).data.toList = t.data.toList.take n := by simp
  have h2 : (t.extract n t.size).toList = t.data.toList.drop n := by
    rw [Lib.extract_toList, List.take_of_length_le]
    simp
  have h3 : t.data.toList = t.data.toList.take n ++ t.data.toList.drop n := (List.take_append_drop n t.data.toList).symm
  rw [h2, h1]
  unfold markL
  generalize le4 (crcV (t.data.toList.take n)) = L
  constructor
  · intro h
    rw [h3] at h
    simp only [List.take_append_drop] at h
    have h' : t.data.toList.take n ++ L = t.data.toList.take n ++ t.data.toList.drop n := by rw [List.take_append_drop]; exact h
    exact (List.append_cancel_left h').symm
  · intro h
    rw [← h, List.take_append_drop]

theorem wf16 {a : Int} (h : (Lit.int .u16 a).wf = true) : 0 ≤ a ∧ a < 65536 := by
  simp [Lit.wf, IntKind.min, IntKind.max, IntKind.signed, IntKind.bits] at h
  omega
theorem size_zero {s : ByteArray} (h : s.size = 0) : s = ByteArray.empty := by
  apply ByteArray.ext
  exact Array.eq_empty_of_size_eq_zero h

theorem wf32 {a : Int} (h : (Lit.int .u32 a).wf = true) : 0 ≤ a ∧ a < 4294967296 := by
  simp [Lit.wf, IntKind.min, IntKind.max, IntKind.signed, IntKind.bits] at h
  omega
theorem wf8 {a : Int} (h : (Lit.int .u8 a).wf = true) : 0 ≤ a ∧ a < 256 := by
  simp [Lit.wf, IntKind.min, IntKind.max, IntKind.signed, IntKind.bits] at h
  omega
theorem toList_add (s t : ByteArray) : (s ++ t).data.toList = s.data.toList ++ t.data.toList := by simp
theorem size_add (s t : ByteArray) : (s ++ t).size = s.size + t.size := ByteArray.size_append

theorem empty_no (s : ByteArray) (h : 1 ≤ s.size) : s.toList.isEmpty = false := by
  rw [ByteArray.toList_eq]
  have e : s.data.toList.length = s.size := by simp
  cases hl : s.data.toList with
  | nil => rw [hl] at e; simp at e; omega
  | cons c l => rfl
theorem empty_yes (s : ByteArray) (h : s.size = 0) : s.toList.isEmpty = true := by
  rw [ByteArray.toList_eq]
  have e : s.data.toList.length = s.size := by simp
  rw [List.eq_nil_of_length_eq_zero (by omega : s.data.toList.length = 0)]
  rfl

theorem bit_at (y j : Nat) (hy : y < 4294967296) : bits BinOp.and IntKind.u32 ((y : Int) / 2 ^ j) 1 = ((y / 2 ^ j % 2 : Nat) : Int) := by
  have h := and1_32 (y / 2 ^ j) (Nat.lt_of_le_of_lt (Nat.div_le_self _ _) hy)
  rw [← h]; simp

theorem flip_step {wr : World} {g : Nat} {l m : List UInt8} {k y L j p r : Nat} (hll : l.length = L) (hp : p = (k + j) / 8) (hr : r = (k + j) % 8) (hin : k + j < 8 * L) (hb : y / 2 ^ j % 2 = 1)
    (hnum : num l = num m ^^^ turned k y (8 * L) j) (hbt : Bts wr g l) :
    ∃ l' : List UInt8, l'.length = L ∧ num l' = num m ^^^ turned k y (8 * L) (j + 1) ∧
      Bts (wr.setCell ⟨g, p, none⟩ (.int .u8 (bits BinOp.xor IntKind.u8 ((l[p]?.getD 0).toNat : Int) (2 ^ r % 256)))).drew g l' := by
  have hpl : p < l.length := by omega
  have hr7 : r ≤ 7 := by omega
  have hr2 : 2 ^ r < 256 := Nat.lt_of_le_of_lt (Nat.pow_le_pow_right (by omega) hr7) (by omega)
  have e : (l[p]?.getD 0) = l[p] := by simp [hpl]
  have hcl := l[p].toNat_lt
  have hx : l[p].toNat ^^^ 2 ^ r < 256 := Nat.xor_lt_two_pow (n := 8) hcl hr2
  have e3 : (UInt8.ofNat (l[p].toNat ^^^ 2 ^ r)).toNat = l[p].toNat ^^^ 2 ^ r := by rw [UInt8.toNat_ofNat', Nat.mod_eq_of_lt hx]
  have e4 : bits BinOp.xor IntKind.u8 ((l[p]?.getD 0).toNat : Int) (2 ^ r % 256) = (((UInt8.ofNat (l[p].toNat ^^^ 2 ^ r)).toNat : Nat) : Int) := by
    rw [e, e3, ← u8_xor_nat _ _ hcl hr2]
    have h2 : (2 : Int) ^ r = ((2 ^ r : Nat) : Int) := by simp
    rw [h2]
    generalize 2 ^ r = z at *
    rw [show (z : Int) % 256 = (z : Int) by omega]
  refine ⟨l.set p (UInt8.ofNat (l[p].toNat ^^^ 2 ^ r)), by rw [List.length_set]; exact hll, ?_, (hbt.set p hpl _ _ e4).drewN 1⟩
  rw [num_set l p _ (2 ^ r) hpl hr2 e3, hnum, turned_flip k y (8 * L) j hb hin, ← Nat.pow_add, show 8 * p + r = k + j by omega, Nat.xor_assoc]

theorem num_le4 (c : Nat) (h : c < 4294967296) : num (le4 c) = c := by
  simp [num, le4]; omega
theorem mark_run (t : List UInt8) : runN 4294967295 (markL t) = bitN 32 4294967295 :=
  marked_run t _ (crcV t) (num_le4 _ (crcV_lt t)) (le4_length _) (crcV_lt t) rfl

/-- What is turned so, and another text, is no marked one. -/
theorem burst_bad (l m : List UInt8) (k y n : Nat) (t : List UInt8) (hm : m = markL t) (hl : l.length = n + 4) (ht : t.length = n) (hk : k ≤ 8 * l.length) (hy : y < 4294967296) (hne : ¬ l = m)
    (hnum : num l = num m ^^^ turned k y (8 * l.length) 32) : ¬ ((str l).extract n (str l).size).toList = le4 (crcV ((str l).extract 0 n).data.toList) := by
  intro h
  have hml : m.length = l.length := by rw [hm, hl]; simp [markL, le4_length, ht]
  have h1 := (mark_iff (str l) n (by rw [size_str, hl])).2 h
  rw [data_str] at h1
  refine burst m l k y hml (by rw [hml]; exact hk) hy hne (by rw [hml]; exact hnum) ?_
  rw [← h1, mark_run, hm, mark_run]

end Go.Proofs.Ytdojepkmjifoeaa
