/- YtdojepkmjifoeaaR; YtdojepkmjifoeaaT; YtdojepkmjifoeaaX -/
import Derived.Lib.Strings
import Derived.Test.YtdojepkmjifoeaaJ06
import Derived.Test.YtdojepkmjifoeaaJ01
import Derived.Test.YtdojepkmjifoeaaJ04
set_option linter.unusedVariables false
set_option linter.unusedSimpArgs false
namespace Go.Proofs.Ytdojepkmjifoeaa
open Go.RowKit

/-- A text, and its sum behind it. -/
def markL (l : List UInt8) : List UInt8 := l ++ le4 (crcV l)
theorem str_data (p : ByteArray) : str p.data.toList = p := by
  apply ByteArray.ext; simp [str]
theorem data_str (l : List UInt8) : (str l).data.toList = l := by simp [str]

theorem run_add_str (p : ByteArray) (l : List UInt8) (h : p.size + l.length ≤ 9223372036854775807) (W : World) : (Op.stringOp .add p (str l)).run Try.prog W = .ok (.string (str (p.data.toList ++ l))) W := by
  rw [run_string_add_sum W p (str l) (by rw [size_str]; exact h), ← str_append, str_data]

theorem mark_any (p : ByteArray) (w : World) (hp : p.size ≤ 1000000000) :
    Calls Try.prog 43 #[.string p] w fun e w' => e = .returned (.string (str (markL p.data.toList))) ∧ Below w.heap.size w w' := by
  have k1 := fun w => tail_any p w hp
  have hadd := fun W => run_add_str p (le4 (crcV p.data.toList)) (by rw [le4_length]; omega) W
  rw [show p.data.toList ++ le4 (crcV p.data.toList) = markL p.data.toList from rfl] at hadd
  have K1 := Lib.hid k1
  clear k1
  go_enter Try.func43, Try.ntmps43
  go_wp2_with (first
    | (go_at_call 65; go_must (refine (K1.out _).mono ?_); rintro e w2 ⟨rfl, hb2⟩))
  go_ret
  exact ⟨rfl, hb2⟩

/-- 'string([]byte{a, b, c, d})' of a slice just laid. -/
theorem run_four_bytes (W : World) (V : Nat) (hV : V < 4294967296) :
    (convert 94 9 (.slice (some ⟨W.heap.size, 0, none⟩) 4 4)).run Try.prog (W.alloc (.cells #[.int .u8 ((V : Int) % 256), .int .u8 ((V : Int) / 256 % 256), .int .u8 ((V : Int) / 65536 % 256), .int .u8 ((V : Int) / 16777216)] 5)) = .ok (.string (str (le4 V))) (W.alloc (.cells #[.int .u8 ((V : Int) % 256), .int .u8 ((V : Int) / 256 % 256), .int .u8 ((V : Int) / 65536 % 256), .int .u8 ((V : Int) / 16777216)] 5)) := by
  refine run_convert_bytes_back (P := Try.prog) _ 94 9 5 ⟨W.heap.size, 0, none⟩ 4 (le4 V) Try.underlying94 Try.underlying5 Try.underlying9 ?_
  intro j hj
  match j, hj with
  | 0, _ => simp [Addr.add, le4]
  | 1, _ => simp [Addr.add, le4]
  | 2, _ => simp [Addr.add, le4]
  | 3, _ => simp [Addr.add, le4]; omega

theorem rmark_any (p : ByteArray) (w : World) (hp : p.size ≤ 1000000000) :
    Calls Try.prog 47 #[.string p] w fun e w' => e = .returned (.string (str (markL p.data.toList))) ∧ Below w.heap.size w w' := by
  have k1 := fun w => rcrc_one p w hp
  have hadd := fun W => run_add_str p (le4 (crcV p.data.toList)) (by rw [le4_length]; omega) W
  rw [show p.data.toList ++ le4 (crcV p.data.toList) = markL p.data.toList from rfl] at hadd
  have hv := crcV_lt p.data.toList
  generalize crcV p.data.toList = V at *
  have hcv := fun W => run_four_bytes W V hv
  have K1 := Lib.hid k1
  clear k1
  have hB := Below.refl w.heap.size w
  go_enter Try.func47, Try.ntmps47
  go_wp2_with (first
    | (go_at_call 67; go_must (refine (K1.out _).mono ?_); rintro e w2 ⟨rfl, rfl⟩))
  go_ret
  exact ⟨rfl, hB.alloc hB.size _⟩

theorem clone_any (p : ByteArray) (w : World) (hp : p.size ≤ 1000000000) : Calls Try.prog 34 #[.string p] w fun e w' => e = .returned (.string p) ∧ Below w.heap.size w w' := by
  have K1 := Lib.hid (fun w => Try.stringslite_Clone p w (by omega))
  go_enter Try.func34, Try.ntmps34
  go_wp2_with (first
    | (go_at_call 54; go_must (refine (K1.out _).mono ?_); rintro e w2 ⟨rfl, hb2⟩))
  go_ret
  exact ⟨rfl, hb2⟩

theorem check_short (p : ByteArray) (w : World) (hp : p.size < 4) :
    Calls Try.prog 70 #[.string p] w fun e w' => e = .returned (.tuple #[.string ⟨#[]⟩, .int .i64 3]) ∧ Below w.heap.size w w' := by
  go_enter Try.func70, Try.ntmps70
  go_wp2
  go_ret2
  exact ⟨rfl, Below.refl _ _⟩

theorem bdn (w : World) (n : Nat) : Below w.heap.size w (w.drewN n) := ⟨rfl, rfl, rfl, Nat.le_refl _, fun _ _ => rfl⟩

theorem check_ok (p : ByteArray) (w : World) (n : Nat) (hn : p.size = n + 4) (hp : p.size ≤ 1000000000) (hm : (p.extract n p.size).toList = le4 (crcV (p.extract 0 n).data.toList)) :
    Calls Try.prog 70 #[.string p] w fun e w' => e = .returned (.tuple #[.string (p.extract 0 n), .int .i64 0]) ∧ Below w.heap.size w w' := by
  have e1 : (p.size : Int) - 4 = (n : Int) := by omega
  have h4 : ¬ p.size < 4 := by omega
  have hle : n ≤ p.size := by omega
  have hsz : (p.extract 0 n).size ≤ 1000000000 := by rw [ByteArray.size_extract]; omega
  have k1 := fun w => tail_any (p.extract 0 n) w hsz
  have K2 := Lib.hid (fun w => clone_any (p.extract 0 n) w hsz)
  generalize le4 (crcV (p.extract 0 n).data.toList) = L at *
  have K1 := Lib.hid k1
  clear k1
  have hd1 : ((p.extract n p.size).toList == (str L).toList) = true := by
    rw [toList_str]; simp [hm]
  have hd2 : ((p.extract n p.size).toList != (str L).toList) = false := by
    rw [toList_str]; simp [hm]
  clear hn hsz hm
  go_enter Try.func70, Try.ntmps70
  go_wp2
  go_quiet (fail)
  go_wp2_with (first
    | (go_at_call 65; go_must (refine (K1.out _).mono ?_); rintro e w2 ⟨rfl, hb2⟩)
    | (go_at_call 34; go_must (refine (K2.out _).mono ?_); rintro e w3 ⟨rfl, hb3⟩))
  go_ret2
  exact ⟨rfl, ((bdn w _).trans hb2).trans (hb3.mono hb2.size)⟩

theorem check_bad (p : ByteArray) (w : World) (n : Nat) (hn : p.size = n + 4) (hp : p.size ≤ 1000000000) (hm : ¬ (p.extract n p.size).toList = le4 (crcV (p.extract 0 n).data.toList)) :
    Calls Try.prog 70 #[.string p] w fun e w' => e = .returned (.tuple #[.string ⟨#[]⟩, .int .i64 9]) ∧ Below w.heap.size w w' := by
  have e1 : (p.size : Int) - 4 = (n : Int) := by omega
  have h4 : ¬ p.size < 4 := by omega
  have hle : n ≤ p.size := by omega
  have hsz : (p.extract 0 n).size ≤ 1000000000 := by rw [ByteArray.size_extract]; omega
  have k1 := fun w => tail_any (p.extract 0 n) w hsz
  generalize le4 (crcV (p.extract 0 n).data.toList) = L at *
  have K1 := Lib.hid k1
  clear k1
  have hd1 : ((p.extract n p.size).toList == (str L).toList) = false := by
    rw [toList_str]; simp [hm]
  have hd2 : ((p.extract n p.size).toList != (str L).toList) = true := by
    rw [toList_str]; simp [hm]
  clear hn hsz hm
  go_enter Try.func70, Try.ntmps70
  go_wp2
  go_quiet (fail)
  go_wp2_with (first
    | (go_at_call 65; go_must (refine (K1.out _).mono ?_); rintro e w2 ⟨rfl, hb2⟩))
  go_ret2
  exact ⟨rfl, (bdn w _).trans hb2⟩

theorem check_mark (l : List UInt8) (w : World) (hl : l.length ≤ 100000000) :
    Calls Try.prog 70 #[.string (str (markL l))] w fun e w' => e = .returned (.tuple #[.string (str l), .int .i64 0]) ∧ Below w.heap.size w w' := by
  have hsz : (str (markL l)).size = l.length + 4 := by rw [size_str]; simp [markL, le4_length]
  have e0 : (str (markL l)).extract 0 l.length = str l := by
    apply ByteArray.ext
    apply Array.ext'
    simp [str, markL]
  have e1 : ((str (markL l)).extract l.length (str (markL l)).size).toList = le4 (crcV l) := by
    rw [Lib.extract_toList, data_str, hsz]
    simp [markL]
    rfl
  have h := check_ok (str (markL l)) w l.length hsz (by omega) (by rw [e1, e0, data_str])
  rw [e0] at h
  exact h
end Go.Proofs.Ytdojepkmjifoeaa

namespace Go.Proofs.Ytdojepkmjifoeaa
open Go.RowKit

/-- Block g begins with these bytes; none is frozen. -/
def Bts (w : World) (g : Nat) (l : List UInt8) : Prop :=
  ∀ j, j < l.length → w.cell? ⟨g, j, none⟩ = some (.int .u8 ((l.getD j 0).toNat : Int)) ∧ w.frozen? ⟨g, j, none⟩ = false

theorem Bts.lt {w : World} {g : Nat} {l : List UInt8} (h : Bts w g l) (hl : 0 < l.length) : g < w.heap.size := by
  have := (h 0 hl).1
  rcases Nat.lt_or_ge g w.heap.size with hlt | hge
  · exact hlt
  · simp [World.cell?, Array.getElem?_eq_none hge] at this
theorem Bts.alloc {w : World} {g : Nat} {l : List UInt8} (h : Bts w g l) (o : Obj) : Bts (w.alloc o) g l := by
  intro j hj
  have hlt := h.lt (by omega)
  obtain ⟨h1, h2⟩ := h j hj
  have hb := Below.heap_alloc w o g hlt
  exact ⟨(World.cell?_of_block (w := w) hb).trans h1, (World.frozen?_of_block (w := w) hb).trans h2⟩
theorem Bts.drewN {w : World} {g : Nat} {l : List UInt8} (h : Bts w g l) (n : Nat) : Bts (w.drewN n) g l := h
theorem Bts.below {w w' : World} {B g : Nat} {l : List UInt8} (h : Bts w g l) (hb : Below B w w') (hg : g < B) : Bts w' g l := by
  intro j hj
  obtain ⟨h1, h2⟩ := h j hj
  exact ⟨(hb.cell (p := ⟨g, j, none⟩) hg).trans h1, (hb.frozen (p := ⟨g, j, none⟩) hg).trans h2⟩
theorem Bts.set {w : World} {g : Nat} {l : List UInt8} (h : Bts w g l) (k : Nat) (hk : k < l.length) (c : Int) (x : UInt8) (hc : c = (x.toNat : Int)) : Bts (w.setCell ⟨g, k, none⟩ (.int .u8 c)) g (l.set k x) := by
  subst hc
  intro j hj
  rw [List.length_set] at hj
  obtain ⟨h1, h2⟩ := h j hj
  by_cases e : j = k
  · subst e
    refine ⟨?_, ?_⟩
    · have := (h j hj).1
      rw [World.cell?_setCell_same w _ _ this]
      simp [List.getD, hj]
    · rw [World.frozen?_setCell]; exact h2
  · refine ⟨?_, ?_⟩
    · rw [World.cell?_setCell_other w _ _ _ (by intro he; injection he with _ he _; exact e he.symm), h1]
      simp [List.getD, Ne.symm e]
    · rw [World.frozen?_setCell]; exact h2

theorem Bts.string {w : World} {g cap : Nat} {l : List UInt8} (h : Bts w g l) :
    (convert 94 9 (.slice (some ⟨g, 0, none⟩) l.length cap)).run Try.prog w = .ok (.string (str l)) w := by
  refine run_convert_bytes_back (P := Try.prog) w 94 9 5 ⟨g, 0, none⟩ cap l Try.underlying94 Try.underlying5 Try.underlying9 ?_
  intro j hj
  have := (h j hj).1
  rw [show (⟨g, 0, none⟩ : Addr).add j = ⟨g, j, none⟩ by simp [Addr.add]; intro e; exact e.symm, this]
  simp [List.getD, hj]

/-- '[]byte(s)'. -/
theorem bytes_of (w : World) (s : ByteArray) : ∃ cap w', (convert 9 94 (.string s)).run Try.prog w = .ok (.slice (some ⟨w.heap.size, 0, none⟩) s.size cap) w' ∧ Bts w' w.heap.size s.data.toList ∧ Below w.heap.size w w' ∧ w.heap.size < w'.heap.size := by
  refine ⟨_, _, run_bytes_of_string w 9 94 5 s Try.underlying9 Try.underlying94 Try.underlying5, ?_, ?_, ?_⟩
  · intro j hj
    have hc := grownCap_ge w s.size 0 5
    have hj' : j < s.size := by simpa using hj
    generalize grownCap w s.size 0 5 = cap at *
    refine ⟨?_, ?_⟩
    · have h := World.cell?_alloc_mark w.drew (bytesRow s cap) 5 ((bytesRow s cap).size, (bytesRow s cap).size + 1) j
      refine h.trans ?_
      rw [bytesRow, Array.getElem?_append_left (by simpa using hj'), Array.getElem?_map]
      have hd : j < s.data.size := hj'
      rw [Array.getElem?_eq_getElem hd]
      simp [List.getD]
      rw [Array.getElem?_eq_getElem hd]
      rfl
    · have h := World.frozen?_alloc_mark w.drew (bytesRow s cap) 5 (bytesRow s cap).size ((bytesRow s cap).size + 1) j
      refine h.trans ?_
      have : s.size ≤ (bytesRow s cap).size := by
        rw [bytesRow, Array.size_append, Array.size_map]; exact Nat.le_add_right _ _
      simp; omega
  · exact ((Below.refl _ w).drew).alloc (Nat.le_refl _) _
  · simp
end Go.Proofs.Ytdojepkmjifoeaa

namespace Go.Proofs.Ytdojepkmjifoeaa

/-- So many bits of a number, from the lowest on, are fed to the register. -/
def feed : Nat → Nat → Nat → Nat
  | 0, x, _ => x
  | t + 1, x, m => feed t (bit (x ^^^ m % 2)) (m / 2)

theorem xor_mod2' (a b : Nat) : (a ^^^ b) % 2 = a % 2 ^^^ b % 2 := by
  have := Nat.xor_mod_two_pow (a := a) (b := b) (n := 1)
  simpa only [Nat.pow_one] using this
theorem xor_swap (x y a b : Nat) : x ^^^ y ^^^ (a ^^^ b) = x ^^^ a ^^^ (y ^^^ b) := by
  rw [Nat.xor_assoc, ← Nat.xor_assoc y, Nat.xor_comm y a, Nat.xor_assoc a, ← Nat.xor_assoc x]

theorem feed_xor (t : Nat) : ∀ x y a b, feed t (x ^^^ y) (a ^^^ b) = feed t x a ^^^ feed t y b := by
  induction t with
  | zero => intro x y a b; rfl
  | succ t ih =>
    intro x y a b
    show feed t (bit (x ^^^ y ^^^ (a ^^^ b) % 2)) ((a ^^^ b) / 2) = _
    rw [xor_mod2', xor_div2, xor_swap, bit_xor, ih]
    rfl
theorem bit_even2 (c : Nat) : bit (2 * c) = c := by
  unfold bit; rw [if_neg (by omega)]; omega
theorem split2 (b : Nat) : b % 2 ^^^ 2 * (b / 2) = b := by
  have h1 : (b % 2 ^^^ 2 * (b / 2)) % 2 = b % 2 := by
    have h := xor_mod2 (b % 2) (2 * (b / 2)); omega
  have h2 : (b % 2 ^^^ 2 * (b / 2)) / 2 = b / 2 := by
    rw [xor_div2, show b % 2 / 2 = 0 by omega, Nat.zero_xor]; omega
  omega
theorem feed_num (t : Nat) : ∀ x b, b < 2 ^ t → feed t x b = bitN t (x ^^^ b) := by
  induction t with
  | zero => intro x b hb; rw [show b = 0 by omega, Nat.xor_zero]; rfl
  | succ t ih =>
    intro x b hb
    show feed t (bit (x ^^^ b % 2)) (b / 2) = bitN t (bit (x ^^^ b))
    rw [ih _ _ (by rw [Nat.pow_succ] at hb; omega)]
    congr 1
    have h := congrArg (fun z => bit (x ^^^ z)) (split2 b)
    rw [← h, ← Nat.xor_assoc, bit_xor (x ^^^ b % 2), bit_even2]
theorem feed_add (a : Nat) : ∀ t x b m, b < 2 ^ a → feed (a + t) x (b + 2 ^ a * m) = feed t (feed a x b) m := by
  induction a with
  | zero =>
    intro t x b m hb
    rw [show b = 0 by omega]; simp [feed]
  | succ a ih =>
    intro t x b m hb
    rw [Nat.pow_succ] at hb ⊢
    rw [show a + 1 + t = (a + t) + 1 by omega]
    show feed (a + t) (bit (x ^^^ (b + 2 ^ a * 2 * m) % 2)) ((b + 2 ^ a * 2 * m) / 2) = feed t (feed a (bit (x ^^^ b % 2)) (b / 2)) m
    rw [← ih t _ _ m (by omega)]
    have e : 2 ^ a * 2 * m = 2 * (2 ^ a * m) := by rw [Nat.mul_comm (2 ^ a) 2, Nat.mul_assoc]
    rw [e]
    congr 1
    · congr 2; omega
    · omega
theorem feed_skip (k t m : Nat) : feed (k + t) 0 (2 ^ k * m) = feed t 0 m := by
  have h := feed_add k t 0 0 m (Nat.pow_pos (by omega))
  rw [Nat.zero_add] at h
  rw [h, feed_num k 0 0 (Nat.pow_pos (by omega)), Nat.xor_zero]
  congr 1
  have e : ∀ k, bitN k 0 = 0 := by
    intro k
    induction k with
    | zero => rfl
    | succ k ih => show bitN k (bit 0) = 0; exact ih
  exact e k

/-- Bytes as one number, the first the lowest. -/
def num : List UInt8 → Nat
  | [] => 0
  | c :: l => c.toNat + 256 * num l
theorem run_feed (l : List UInt8) : ∀ x, runN x l = feed (8 * l.length) x (num l) := by
  induction l with
  | nil => intro x; rfl
  | cons c l ih =>
    intro x
    show runN (stepN x c.toNat) l = _
    rw [ih, List.length_cons, show 8 * (l.length + 1) = 8 + 8 * l.length by omega]
    show _ = feed (8 + 8 * l.length) x (c.toNat + 2 ^ 8 * num l)
    rw [feed_add 8 _ _ _ _ c.toNat_lt, feed_num 8 x _ c.toNat_lt]
    rfl
theorem num_inj : ∀ a b : List UInt8, a.length = b.length → num a = num b → a = b := by
  intro a
  induction a with
  | nil => intro b hl _; exact (List.eq_nil_of_length_eq_zero (by simpa using hl.symm)).symm
  | cons c a ih =>
    intro b hl h
    match b, hl, h with
    | d :: b, hl, h =>
      have hc := c.toNat_lt
      have hd := d.toNat_lt
      have h' : c.toNat + 256 * num a = d.toNat + 256 * num b := h
      have e1 : c.toNat = d.toNat := by omega
      have e2 : num a = num b := by omega
      rw [UInt8.toNat_inj.1 e1, ih b (by simpa using hl) e2]

theorem xor_low (c d m : Nat) (hc : c < 256) (hd : d < 256) : (c + 256 * m) ^^^ d = (c ^^^ d) + 256 * m := by
  have hx : c ^^^ d < 256 := Nat.xor_lt_two_pow (n := 8) hc hd
  have h1 : ((c + 256 * m) ^^^ d) % 256 = c ^^^ d := by
    have := Nat.xor_mod_two_pow (a := c + 256 * m) (b := d) (n := 8)
    simp only [Nat.reducePow] at this
    rw [this, show (c + 256 * m) % 256 = c by omega, show d % 256 = d by omega]
  have h2 : ((c + 256 * m) ^^^ d) / 256 = m := by
    have := Nat.xor_div_two_pow (a := c + 256 * m) (b := d) (n := 8)
    simp only [Nat.reducePow] at this
    rw [this, show (c + 256 * m) / 256 = m by omega, show d / 256 = 0 by omega, Nat.xor_zero]
  omega
theorem xor_high (c m e : Nat) (hc : c < 256) : (c + 256 * m) ^^^ (256 * e) = c + 256 * (m ^^^ e) := by
  have h1 : ((c + 256 * m) ^^^ (256 * e)) % 256 = c := by
    have := Nat.xor_mod_two_pow (a := c + 256 * m) (b := 256 * e) (n := 8)
    simp only [Nat.reducePow] at this
    rw [this, show (c + 256 * m) % 256 = c by omega, show 256 * e % 256 = 0 by omega, Nat.xor_zero]
  have h2 : ((c + 256 * m) ^^^ (256 * e)) / 256 = m ^^^ e := by
    have := Nat.xor_div_two_pow (a := c + 256 * m) (b := 256 * e) (n := 8)
    simp only [Nat.reducePow] at this
    rw [this, show (c + 256 * m) / 256 = m by omega, show 256 * e / 256 = e by omega]
  omega
theorem num_set (l : List UInt8) : ∀ (j : Nat) (x : UInt8) (d : Nat), (hj : j < l.length) → d < 256 → x.toNat = l[j].toNat ^^^ d → num (l.set j x) = num l ^^^ (2 ^ (8 * j) * d) := by
  induction l with
  | nil => intro j x d hj; simp at hj
  | cons c l ih =>
    intro j x d hj hd hx
    match j, hj, hx with
    | 0, _, hx =>
      have hx' : x.toNat = c.toNat ^^^ d := hx
      show x.toNat + 256 * num l = (c.toNat + 256 * num l) ^^^ _
      rw [hx', Nat.mul_zero, Nat.pow_zero, Nat.one_mul, xor_low _ _ _ c.toNat_lt hd]
    | j + 1, hj, hx =>
      have hj' : j < l.length := by simpa using hj
      have := ih j x d hj' hd hx
      show c.toNat + 256 * num (l.set j x) = (c.toNat + 256 * num l) ^^^ _
      rw [this, show 2 ^ (8 * (j + 1)) * d = 256 * (2 ^ (8 * j) * d) by rw [Nat.mul_add, Nat.pow_add, show (2 : Nat) ^ (8 * 1) = 256 by rfl, Nat.mul_comm (2 ^ (8 * j)) 256, Nat.mul_assoc]]
      rw [xor_high _ _ _ c.toNat_lt]

/-- What is turned behind i of the 32: the bits that lie within the text. -/
def turned (k y L i : Nat) : Nat := (2 ^ k * (y % 2 ^ i)) % 2 ^ L
theorem xor_top (x p : Nat) (h : x < 2 ^ p) : x ^^^ 2 ^ p = x + 2 ^ p := by
  have h1 : (x ^^^ 2 ^ p) % 2 ^ p = x := by
    rw [Nat.xor_mod_two_pow, Nat.mod_eq_of_lt h, Nat.mod_self, Nat.xor_zero]
  have h2 : (x ^^^ 2 ^ p) / 2 ^ p = 1 := by
    rw [Nat.xor_div_two_pow, Nat.div_eq_of_lt h, Nat.div_self (Nat.pow_pos (by omega)), Nat.zero_xor]
  have h3 := Nat.div_add_mod (x ^^^ 2 ^ p) (2 ^ p)
  rw [h1, h2, Nat.mul_one] at h3
  omega
theorem mod_more (y i : Nat) : y % 2 ^ (i + 1) = y % 2 ^ i + 2 ^ i * (y / 2 ^ i % 2) := by rw [Nat.pow_succ, Nat.mod_mul]
theorem turned_lt (k y i : Nat) : 2 ^ k * (y % 2 ^ i) < 2 ^ (k + i) := by
  rw [Nat.pow_add]
  exact Nat.mul_lt_mul_of_pos_left (Nat.mod_lt _ (Nat.pow_pos (by omega))) (Nat.pow_pos (by omega))
theorem turned_flip (k y L i : Nat) (hb : y / 2 ^ i % 2 = 1) (hl : k + i < L) : turned k y L (i + 1) = turned k y L i ^^^ 2 ^ (k + i) := by
  unfold turned
  have hx := turned_lt k y i
  have hle : 2 ^ (k + i + 1) ≤ 2 ^ L := Nat.pow_le_pow_right (by omega) (by omega)
  have hle' : 2 ^ (k + i) + 2 ^ (k + i) ≤ 2 ^ L := by rw [Nat.pow_succ] at hle; omega
  rw [mod_more, hb, Nat.mul_one, Nat.mul_add, ← Nat.pow_add]
  rw [Nat.mod_eq_of_lt (a := 2 ^ k * (y % 2 ^ i) + 2 ^ (k + i)) (by omega), Nat.mod_eq_of_lt (a := 2 ^ k * (y % 2 ^ i)) (by omega), xor_top _ _ hx]
theorem turned_still (k y L i : Nat) (h : y / 2 ^ i % 2 = 0 ∨ L ≤ k + i) : turned k y L (i + 1) = turned k y L i := by
  unfold turned
  rw [mod_more]
  rcases h with h | h
  · rw [h]; simp
  · rw [Nat.mul_add, ← Nat.mul_assoc, ← Nat.pow_add]
    obtain ⟨d, hd⟩ : ∃ d, k + i = L + d := ⟨k + i - L, by omega⟩
    rw [hd, Nat.pow_add, Nat.mul_assoc, Nat.add_mul_mod_self_left]
theorem turned_all (k y L : Nat) (hy : y < 4294967296) (hk : k ≤ L) : turned k y L 32 = 2 ^ k * (y % 2 ^ (L - k)) := by
  unfold turned
  rw [Nat.mod_eq_of_lt (a := y) (by simpa using hy)]
  conv => lhs; rw [show L = k + (L - k) by omega, Nat.pow_add]
  rw [Nat.mul_mod_mul_left]

/-- What is marked leaves this in the register. -/
theorem marked_run (t m : List UInt8) (c : Nat) (hm : num m = c) (hml : m.length = 4) (hc : c < 4294967296) (hv : c = 4294967295 - runN 4294967295 t) : runN 4294967295 (t ++ m) = bitN 32 4294967295 := by
  have hst := runN_lt t 4294967295 (by omega)
  rw [runN_append, run_feed m, hml, hm, feed_num 32 _ _ (by simpa using hc), hv]
  congr 1
  rw [← not32 _ hst]
  generalize runN 4294967295 t = x
  rw [Nat.xor_comm 4294967295 x, ← Nat.xor_assoc, Nat.xor_self, Nat.zero_xor]

/-- Turned by up to 32 bits, one behind the other, it is no longer so. -/
theorem burst (a b : List UInt8) (k y : Nat) (hl : a.length = b.length) (hk : k ≤ 8 * a.length) (hy : y < 4294967296) (hne : b ≠ a)
    (hb : num b = num a ^^^ turned k y (8 * a.length) 32) : runN 4294967295 b ≠ runN 4294967295 a := by
  intro h
  rw [run_feed, run_feed a, ← hl] at h
  have hx := feed_xor (8 * a.length) 4294967295 4294967295 (num b) (num a)
  rw [h, Nat.xor_self, Nat.xor_self, hb, Nat.xor_comm (num a), Nat.xor_assoc, Nat.xor_self, Nat.xor_zero, turned_all k y _ hy hk] at hx
  obtain ⟨t, ht⟩ : ∃ t, 8 * a.length = k + t := ⟨8 * a.length - k, by omega⟩
  rw [ht, feed_skip, show k + t - k = t by omega, feed_num t _ _ (Nat.mod_lt _ (Nat.pow_pos (by omega))), Nat.zero_xor] at hx
  have hz := bitN_zero t _ (Nat.lt_of_le_of_lt (Nat.mod_le _ _) hy) hx
  apply hne
  refine num_inj _ _ hl.symm ?_
  rw [hb, turned_all k y _ hy hk, ht, show k + t - k = t by omega, hz, Nat.mul_zero, Nat.xor_zero]
end Go.Proofs.Ytdojepkmjifoeaa
