/- word.Long of what Short has written.; YtjfjliobencppaaGreatDoorE; YtjfjliobencppaaGreatDoorK; YtjfjliobencppaaGreatDoorL; YtjfjliobencppaaGreatDoorH -/
import Derived.Test.YtjfjliobencppaaGreatDoorJ00
import Derived.Laws.BitsAllLaws
set_option linter.unusedVariables false
set_option linter.unusedSimpArgs false
namespace Go.Proofs.YtjfjliobencppaaGreatDoor
open Go.RowKit

/-- At 'next', j bytes read. -/
def LongJ (n : Nat) (rest : List UInt8) (s : ByteArray) (w : World) (a' : Act) (w' : World) : Prop :=
  w' = w ∧ ∃ (j m acc : Nat) (u1 u2 u3 u4 u7 u8 u9 u10 u11 u12 u13 u14 u15 u16 u17 u18 u19 u20 u21 u22 u23 u24 u25 u26 u27 u28 u29 u30 u31 u32 u33 u34 u35 u36 u37 u38 u39 u40 u41 u42 : Value),
    a' = { tmps := #[.string s, u1, u2, u3, u4, .int .u64 acc, .int .i64 j, u7, u8, u9, u10, u11, u12, u13, u14, u15, u16, u17, u18, u19, u20, u21, u22, u23, u24, u25, u26, u27, u28, u29, u30, u31, u32, u33, u34, u35, u36, u37, u38, u39, u40, u41, u42], defers := [] } ∧
    1 ≤ j ∧ 1 ≤ m ∧ n = acc + 128 ^ j * m ∧ acc < 128 ^ j ∧ s.data.toList.drop j = sh m ++ rest ∧ j + (sh m).length = (sh n).length

theorem pow7 (j : Nat) : (2 : Nat) ^ (7 * j) = 128 ^ j := by rw [Nat.pow_mul]
/-- What one byte of a number by sevens does. -/
theorem long_step (n j m acc r : Nat) (hn : n ≤ 18446744073709551615) (hnm : n = acc + 128 ^ j * m) (hacc : acc < 128 ^ j) (hr : r = m % 128) :
    IntKind.u64.wrap ((r : Int) * 2 ^ (7 * j)) = ((128 ^ j * r : Nat) : Int) ∧ bits BinOp.or IntKind.u64 (acc : Int) ((128 ^ j * r : Nat) : Int) = ((acc + 128 ^ j * r : Nat) : Int) := by
  have h1 : 128 ^ j * r ≤ 128 ^ j * m := Nat.mul_le_mul_left _ (by omega)
  have e : ((r : Int) * 2 ^ (7 * j)) = ((128 ^ j * r : Nat) : Int) := by
    have h2 : (2 : Int) ^ (7 * j) = ((2 ^ (7 * j) : Nat) : Int) := by simp
    rw [h2, pow7, Nat.mul_comm]; simp
  rw [e]
  generalize hx : 128 ^ j * r = x at *
  refine ⟨IntWalk.u64_in _ (by omega), ?_⟩
  rw [u64_or_nat acc x (by omega) (by omega), Nat.or_comm, nat_join (7 * j) x acc (by rw [pow7, ← hx]; exact Nat.mul_mod_right _ _) (by rw [pow7]; exact hacc)]
  congr 1; omega
theorem mask_byte (c : Nat) (h : c < 256) : bits BinOp.and IntKind.u8 (c : Int) 127 = ((c % 128 : Nat) : Int) := by
  have := u8_and_nat c 127 (by omega) (by omega)
  rw [nat_mask7] at this
  exact this

set_option maxRecDepth 1000000 in
set_option maxHeartbeats 1000000 in
theorem long_ok (n : Nat) (rest : List UInt8) (s : ByteArray) (hn : n ≤ 18446744073709551615) (hs : s.data.toList = sh n ++ rest) (hmax : s.size ≤ 1000000000) (w : World) :
    Calls Tryz.prog 106 #[.string s] w fun e w' => e = .returned (.tuple #[.int .u64 n, .int .i64 ((sh n).length : Nat), .int .i64 0]) ∧ w = w' := by
  have HN := Lib.hid hn
  have HS := Lib.hid hs
  have hl : s.data.toList.length = s.size := by simp
  have h0 : 0 < s.size := by rw [← hl, hs]; have := sh_pos n; simp; omega
  have hz : ((s.size : Int) == 0) = false := by rw [beq_eq_false_iff_ne]; omega
  have hz2 : ((0 : Int) == (s.size : Int)) = false := by rw [beq_eq_false_iff_ne]; omega
  clear hn hs hl
  go_enter Tryz.func106, Tryz.ntmps106
  go_wp2
  refine wp_scope_jumps 0 (LongJ n rest s w) (fun a' _ => 20 - (intOf (a'.tmps.getD 6 undef)).toNat) rfl ?_ ?_
  · obtain ⟨r, hr⟩ : ∃ r, r = n % 128 := ⟨_, rfl⟩
    have f2 : IntKind.u64.wrap (r : Int) = (r : Int) := IntWalk.u64_in _ (by omega)
    have f5 : bits BinOp.or IntKind.u64 0 (r : Int) = (r : Int) := by
      have := u64_or_nat 0 r (by omega) (by omega)
      rw [Nat.zero_or] at this
      exact this
    have h2 : s.data.toList[0]? = some s[0] := by
      rw [List.getElem?_eq_getElem (by simpa using h0)]; rfl
    by_cases hm : 127 < n
    · have hcm : s[0].toNat = r + 128 := by
        rw [HS.out, sh_more n hm] at h2
        simp only [List.cons_append, List.getElem?_cons_zero] at h2
        injection h2 with h2
        rw [← h2, UInt8.toNat_ofNat', hr]; omega
      have f1 : bits BinOp.and IntKind.u8 (s[0].toNat : Int) 127 = (r : Int) := by
        rw [mask_byte _ s[0].toNat_lt, hcm]; congr 1; omega
      have g1 : (128 : Int) ≤ (s[0].toNat : Int) := by rw [hcm]; omega
      have hd2 : s.data.toList.drop 1 = sh (n / 128) ++ rest := by
        rw [HS.out, sh_more n hm]; simp
      have hn2 : n = r + 128 ^ 1 * (n / 128) := by rw [Nat.pow_one]; omega
      have hl2 : 1 + (sh (n / 128)).length = (sh n).length := by
        conv => rhs; rw [sh_more n hm]
        simp; omega
      have hm2 : 1 ≤ n / 128 := by omega
      have hlt : r < 128 ^ 1 := by rw [Nat.pow_one]; omega
      generalize n / 128 = m2 at *
      have HD2 := Lib.hid hd2
      have HN2 := Lib.hid hn2
      have HL2 := Lib.hid hl2
      have HLT := Lib.hid hlt
      clear hd2 hn2 hl2 hlt hcm hr h2
      go_wp2
      go_step3
      go_wp2
      go_step3
      exact ⟨rfl, rfl, 1, m2, r, _, _, _, _, _, _, _, _, _, _, _, _, _, _, _, _, _, _, _, _, _, _, _, _, _, _, _, _, _, _, _, _, _, _, _, _, _, _, _, _, rfl, Nat.le_refl _, hm2, HN2.out, HLT.out, HD2.out, HL2.out⟩
    · have hcm : s[0].toNat = n := by
        rw [HS.out, sh_last n hm] at h2
        simp only [List.cons_append, List.getElem?_cons_zero] at h2
        injection h2 with h2
        rw [← h2, UInt8.toNat_ofNat']; omega
      have hrn : r = n := by omega
      rw [hrn] at f2 f5
      have f1 : bits BinOp.and IntKind.u8 (s[0].toNat : Int) 127 = (n : Int) := by
        rw [mask_byte _ s[0].toNat_lt, hcm]; congr 1; omega
      have g1 : ¬ (128 : Int) ≤ (s[0].toNat : Int) := by rw [hcm]; omega
      have hl2 : (sh n).length = 1 := by rw [sh_last n hm]; rfl
      have HL2 := Lib.hid hl2
      clear hl2 hcm hr hrn h2
      go_wp2
      go_step3
      go_wp2
      simp only [Exit.jump]
      refine bodyPost_ret (v := .tuple #[.int .u64 n, .int .i64 1, .int .i64 0]) (by simp [results, Tryz.results106, go_sem]) rfl ⟨?_, rfl⟩
      rw [HL2.out]
      rfl
  · rintro a' w' ⟨rfl, j, m, acc, u1, u2, u3, u4, u7, u8, u9, u10, u11, u12, u13, u14, u15, u16, u17, u18, u19, u20, u21, u22, u23, u24, u25, u26, u27, u28, u29, u30, u31, u32, u33, u34, u35, u36, u37, u38, u39, u40, u41, u42, rfl, hj1, hm1, hnm, hacc, hd, hlen⟩
    have hj9 : j ≤ 9 := by
      have h1 := sh_ten n HN.out
      have h2 := sh_pos m
      omega
    have hj10 : ((j : Int) == 10) = false := by rw [beq_eq_false_iff_ne]; omega
    have hl : s.data.toList.length = s.size := by simp
    have hjs : j < s.size := by
      have h1 := congrArg List.length hd
      have h2 := sh_pos m
      simp at h1; omega
    have hjs2 : ((j : Int) == (s.size : Int)) = false := by rw [beq_eq_false_iff_ne]; omega
    have ij : (j : Int) < (s.size : Int) := by omega
    have ij9 : (j : Int) ≤ 9 := by omega
    have HD := Lib.hid hd
    have HA := Lib.hid hacc
    have HNM := Lib.hid hnm
    have HLEN := Lib.hid hlen
    clear hd hacc hnm hlen hz hz2 h0 hl
    obtain ⟨r, hr⟩ : ∃ r, r = m % 128 := ⟨_, rfl⟩
    obtain ⟨q3, q4⟩ := long_step n j m acc r HN.out HNM.out HA.out hr
    have f2 : IntKind.u64.wrap (r : Int) = (r : Int) := IntWalk.u64_in _ (by omega)
    have hlt : acc + 128 ^ j * r < 128 ^ (j + 1) := by
      have h1 : 128 ^ j * r ≤ 128 ^ j * 127 := Nat.mul_le_mul_left _ (by omega)
      have h2 := HA.out
      rw [Nat.pow_succ]; omega
    by_cases hm : 127 < m
    · have hcm : s[j].toNat = r + 128 := by
        have h1 := congrArg (fun l => l[0]?) HD.out
        rw [sh_more m hm] at h1
        simp only [List.getElem?_drop, Nat.add_zero, List.cons_append, List.getElem?_cons_zero] at h1
        have h2 : s.data.toList[j]? = some s[j] := by
          rw [List.getElem?_eq_getElem (by simpa using hjs)]; rfl
        rw [h2] at h1
        injection h1 with h1
        rw [h1, UInt8.toNat_ofNat', hr]; omega
      have f1 : bits BinOp.and IntKind.u8 (s[j].toNat : Int) 127 = (r : Int) := by
        rw [mask_byte _ s[j].toNat_lt, hcm]; congr 1; omega
      have g1 : (128 : Int) ≤ (s[j].toNat : Int) := by rw [hcm]; omega
      have hd2 : s.data.toList.drop (j + 1) = sh (m / 128) ++ rest := by
        have h1 := congrArg (List.drop 1) HD.out
        rw [List.drop_drop, sh_more m hm] at h1
        simpa using h1
      have hn2 : n = (acc + 128 ^ j * r) + 128 ^ (j + 1) * (m / 128) := by
        have h1 := HNM.out
        have h2 : m = 128 * (m / 128) + r := by omega
        rw [Nat.pow_succ, Nat.mul_assoc, Nat.add_assoc, ← Nat.mul_add, Nat.add_comm r, ← h2]
        exact h1
      have hl2 : j + 1 + (sh (m / 128)).length = (sh n).length := by
        have h1 := HLEN.out
        rw [sh_more m hm] at h1
        simp at h1; omega
      have hm2 : 1 ≤ m / 128 := by omega
      generalize 128 ^ j * r = x at *
      generalize m / 128 = m2 at *
      generalize acc + x = acc2 at *
      have HD2 := Lib.hid hd2
      have HN2 := Lib.hid hn2
      have HL2 := Lib.hid hl2
      have HLT := Lib.hid hlt
      clear hd2 hn2 hl2 hlt hcm hr
      go_wp2
      go_step3
      refine ⟨rfl, ⟨rfl, j + 1, m2, acc2, _, _, _, _, _, _, _, _, _, _, _, _, _, _, _, _, _, _, _, _, _, _, _, _, _, _, _, _, _, _, _, _, _, _, _, _, _, _, _, _, rfl, by omega, hm2, HN2.out, HLT.out, HD2.out, HL2.out⟩, ?_⟩
      simp [intOf]; omega
    · have hcm : s[j].toNat = m := by
        have h1 := congrArg (fun l => l[0]?) HD.out
        rw [sh_last m hm] at h1
        simp only [List.getElem?_drop, Nat.add_zero, List.cons_append, List.getElem?_cons_zero] at h1
        have h2 : s.data.toList[j]? = some s[j] := by
          rw [List.getElem?_eq_getElem (by simpa using hjs)]; rfl
        rw [h2] at h1
        injection h1 with h1
        rw [h1, UInt8.toNat_ofNat']; omega
      have f1 : bits BinOp.and IntKind.u8 (s[j].toNat : Int) 127 = (r : Int) := by
        rw [mask_byte _ s[j].toNat_lt, hcm]; congr 1; omega
      have g1 : ¬ (128 : Int) ≤ (s[j].toNat : Int) := by rw [hcm]; omega
      have g2 : ((s[j].toNat : Int) == 0) = false := by rw [hcm, beq_eq_false_iff_ne]; omega
      have hn2 : acc + 128 ^ j * r = n := by
        rw [HNM.out, hr, Nat.mod_eq_of_lt (by omega)]
      have hl2 : (sh n).length = j + 1 := by
        have h1 := HLEN.out
        rw [sh_last m hm] at h1
        simp at h1; omega
      have hg3 : j = 9 → m ≤ 1 := by
        intro h
        have h1 := HNM.out
        have h2 := HN.out
        rw [h] at h1
        have h3 : (128 : Nat) ^ 9 = 9223372036854775808 := by rfl
        rw [h3] at h1; omega
      rw [hn2] at q4
      generalize 128 ^ j * r = x at *
      have HL2 := Lib.hid hl2
      clear hn2 hlt hr
      by_cases h9 : j = 9
      · have g3 : ¬ (1 : Int) < (s[j].toNat : Int) := by rw [hcm]; have := hg3 h9; omega
        have hj1 : ((j : Int) + 1 == 10) = true := by rw [beq_iff_eq]; omega
        have H9 := Lib.hid h9
        clear hg3 hcm h9 hl2
        go_wp2
        simp only [Exit.jump]
        refine bodyPost_ret (v := .tuple #[.int .u64 n, .int .i64 ((j : Int) + 1), .int .i64 0]) (by simp [results, Tryz.results106, go_sem]) rfl ⟨?_, rfl⟩
        rw [HL2.out]
        rfl
      · have hj1 : ((j : Int) + 1 == 10) = false := by rw [beq_eq_false_iff_ne]; omega
        clear hg3 hcm h9 hl2
        go_wp2
        simp only [Exit.jump]
        refine bodyPost_ret (v := .tuple #[.int .u64 n, .int .i64 ((j : Int) + 1), .int .i64 0]) (by simp [results, Tryz.results106, go_sem]) rfl ⟨?_, rfl⟩
        rw [HL2.out]
        rfl
end Go.Proofs.YtjfjliobencppaaGreatDoor

namespace Go.Proofs.YtjfjliobencppaaGreatDoor
open Go.RowKit

theorem toList_str (l : List UInt8) : (str l).toList = l := ByteArray.toList_mk l

theorem awake_any (w : World) : Calls Tryz.prog 122 #[] w fun e w' => e = .returned (.bool true) ∧ Below w.heap.size w w' := by
  have h1 : (str (sh 300)).toList = [172, 2] := by
    rw [toList_str, sh_more 300 (by omega), sh_last _ (by omega)]
    rfl
  have h2 : ((str (be 258 (clip 2))).toList == [1, 2]) = true := by
    rw [toList_str]
    rfl
  go_enter Tryz.func122, Tryz.ntmps122
  go_wp2_with (first
    | (go_at_call 94; go_must (refine (short_any 300 (by omega) _).mono ?_); rintro e w1 ⟨rfl, hb1⟩)
    | (go_at_call 93; go_must (refine (put_any 258 2 (by omega) _).mono ?_); rintro e w2 ⟨rfl, hb2⟩))
  go_ret
  exact ⟨rfl, hb1.trans (hb2.mono hb1.size)⟩

theorem awake1_any (w : World) : Calls Tryz.prog 89 #[] w fun e w' => e = .returned (.bool true) ∧ Below w.heap.size w w' := by
  go_enter Tryz.func89, Tryz.ntmps89
  go_wp2_with (first
    | (go_at_call 122; go_must (refine (awake_any _).mono ?_); rintro e w1 ⟨rfl, hb1⟩))
  go_ret
  exact ⟨rfl, hb1⟩
end Go.Proofs.YtjfjliobencppaaGreatDoor

namespace Go.Proofs.YtjfjliobencppaaGreatDoor

/-- The CRC's polynomial. -/
def poly : Nat := 2197175160
/-- One bit of the register. -/
def bit (n : Nat) : Nat := if n % 2 = 1 then n / 2 ^^^ poly else n / 2
/-- So many bits. -/
def bitN : Nat → Nat → Nat
  | 0, n => n
  | k + 1, n => bitN k (bit n)
/-- One byte. -/
def stepN (n c : Nat) : Nat := bitN 8 (n ^^^ c)
/-- Bytes, one behind the other. -/
def runN (n : Nat) (l : List UInt8) : Nat := l.foldl (fun n c => stepN n c.toNat) n

theorem xor_lt (a b : Nat) (ha : a < 4294967296) (hb : b < 4294967296) : a ^^^ b < 4294967296 := Nat.xor_lt_two_pow (n := 32) ha hb
theorem bit_lt (n : Nat) (h : n < 4294967296) : bit n < 4294967296 := by
  unfold bit; split
  · exact xor_lt _ _ (by omega) (by unfold poly; omega)
  · omega
theorem bitN_lt (k : Nat) : ∀ n, n < 4294967296 → bitN k n < 4294967296 := by
  induction k with
  | zero => intro n h; exact h
  | succ k ih => intro n h; exact ih _ (bit_lt n h)
theorem stepN_lt (n c : Nat) (h : n < 4294967296) (hc : c < 256) : stepN n c < 4294967296 := bitN_lt 8 _ (xor_lt _ _ h (by omega))
theorem runN_lt (l : List UInt8) : ∀ n, n < 4294967296 → runN n l < 4294967296 := by
  induction l with
  | nil => intro n h; exact h
  | cons c l ih => intro n h; exact ih _ (stepN_lt n _ h c.toNat_lt)
theorem runN_append (n : Nat) (a b : List UInt8) : runN n (a ++ b) = runN (runN n a) b := by simp [runN]
theorem runN_snoc (n : Nat) (a : List UInt8) (c : UInt8) : runN n (a ++ [c]) = stepN (runN n a) c.toNat := by simp [runN]

theorem xor_mod2 (a b : Nat) : (a ^^^ b) % 2 = (a % 2 + b % 2) % 2 := by
  have := Nat.xor_mod_two_pow (a := a) (b := b) (n := 1)
  simp only [Nat.pow_one] at this
  rw [this]
  rcases Nat.mod_two_eq_zero_or_one a with h | h <;> rcases Nat.mod_two_eq_zero_or_one b with h' | h' <;> rw [h, h'] <;> rfl
theorem xor_div2 (a b : Nat) : (a ^^^ b) / 2 = a / 2 ^^^ b / 2 := by
  have := Nat.xor_div_two_pow (a := a) (b := b) (n := 1)
  simpa using this

/-- A bit of two registers together. -/
theorem bit_xor (a b : Nat) : bit (a ^^^ b) = bit a ^^^ bit b := by
  have h1 := xor_mod2 a b
  have h2 := xor_div2 a b
  unfold bit
  rw [h2]
  rcases Nat.mod_two_eq_zero_or_one a with ha | ha <;> rcases Nat.mod_two_eq_zero_or_one b with hb | hb
  · rw [if_neg (by omega), if_neg (by omega), if_neg (by omega)]
  · rw [if_pos (by omega), if_neg (by omega), if_pos (by omega), Nat.xor_assoc]
  · rw [if_pos (by omega), if_pos (by omega), if_neg (by omega)]
    rw [Nat.xor_assoc, Nat.xor_assoc, Nat.xor_comm (b / 2) poly]
  · rw [if_neg (by omega), if_pos (by omega), if_pos (by omega)]
    rw [Nat.xor_assoc, ← Nat.xor_assoc poly, Nat.xor_comm poly (b / 2), Nat.xor_assoc (b / 2), Nat.xor_self, Nat.xor_zero]
theorem bitN_xor (k : Nat) : ∀ a b, bitN k (a ^^^ b) = bitN k a ^^^ bitN k b := by
  induction k with
  | zero => intro a b; rfl
  | succ k ih => intro a b; show bitN k (bit (a ^^^ b)) = _; rw [bit_xor, ih]; rfl
theorem bit_zero (n : Nat) (h : n < 4294967296) (hb : bit n = 0) : n = 0 := by
  unfold bit at hb
  split at hb
  · exfalso
    have h1 : (n / 2 ^^^ poly) / 2147483648 = (n / 2) / 2147483648 ^^^ poly / 2147483648 := by
      simpa using Nat.xor_div_two_pow (a := n / 2) (b := poly) (n := 31)
    rw [hb] at h1
    rw [Nat.div_eq_of_lt (a := n / 2) (by omega)] at h1
    unfold poly at h1
    simp at h1
  · omega
theorem bitN_zero (k : Nat) : ∀ n, n < 4294967296 → bitN k n = 0 → n = 0 := by
  induction k with
  | zero => intro n _ h; exact h
  | succ k ih => intro n hn h; exact bit_zero n hn (ih _ (bit_lt n hn) h)
theorem xor_eq_zero (a b : Nat) (h : a ^^^ b = 0) : a = b := by
  have : a ^^^ b ^^^ b = b := by rw [h, Nat.zero_xor]
  rw [Nat.xor_assoc, Nat.xor_self, Nat.xor_zero] at this
  exact this
theorem bitN_inj (k a b : Nat) (ha : a < 4294967296) (hb : b < 4294967296) (h : bitN k a = bitN k b) : a = b := by
  refine xor_eq_zero a b (bitN_zero k _ (xor_lt a b ha hb) ?_)
  rw [bitN_xor, h, Nat.xor_self]
theorem xor_cancel (a b c : Nat) (h : a ^^^ c = b ^^^ c) : a = b := by
  have := congrArg (· ^^^ c) h
  simpa [Nat.xor_assoc, Nat.xor_self, Nat.xor_zero] using this
theorem xor_cancel' (a b c : Nat) (h : c ^^^ a = c ^^^ b) : a = b := by
  rw [Nat.xor_comm c a, Nat.xor_comm c b] at h; exact xor_cancel a b c h
theorem stepN_inj (a b c : Nat) (ha : a < 4294967296) (hb : b < 4294967296) (hc : c < 256) (h : stepN a c = stepN b c) : a = b :=
  xor_cancel a b c (bitN_inj 8 _ _ (xor_lt _ _ ha (by omega)) (xor_lt _ _ hb (by omega)) h)
theorem stepN_inj' (a c d : Nat) (ha : a < 4294967296) (hc : c < 256) (hd : d < 256) (h : stepN a c = stepN a d) : c = d :=
  xor_cancel' c d a (bitN_inj 8 _ _ (xor_lt _ _ ha (by omega)) (xor_lt _ _ ha (by omega)) h)
theorem runN_inj (l : List UInt8) : ∀ a b, a < 4294967296 → b < 4294967296 → runN a l = runN b l → a = b := by
  induction l with
  | nil => intro a b _ _ h; exact h
  | cons c l ih =>
    intro a b ha hb h
    exact stepN_inj a b _ ha hb c.toNat_lt (ih _ _ (stepN_lt a _ ha c.toNat_lt) (stepN_lt b _ hb c.toNat_lt) h)

theorem not32 (x : Nat) (h : x < 4294967296) : 4294967295 ^^^ x = 4294967295 - x := by
  have h1 : (~~~ (BitVec.ofNat 32 x)).toNat = 2 ^ 32 - 1 - (BitVec.ofNat 32 x).toNat := BitVec.toNat_not
  rw [BitVec.not_def, BitVec.toNat_xor, BitVec.toNat_allOnes, BitVec.toNat_ofNat, Nat.mod_eq_of_lt (by simpa using h)] at h1
  simpa using h1

/-! ### The quick sum -/
def quickStep (n c : Nat) : Nat := (n ^^^ c) * 1099511628211 % 18446744073709551616
def quickRun (n : Nat) (l : List UInt8) : Nat := l.foldl (fun n c => quickStep n c.toNat) n
theorem quickStep_lt (n c : Nat) : quickStep n c < 18446744073709551616 := Nat.mod_lt _ (by omega)
theorem quickRun_lt (l : List UInt8) : ∀ n, n < 18446744073709551616 → quickRun n l < 18446744073709551616 := by
  induction l with
  | nil => intro n h; exact h
  | cons c l ih => intro n _; exact ih _ (quickStep_lt n _)
theorem quickRun_append (n : Nat) (a b : List UInt8) : quickRun n (a ++ b) = quickRun (quickRun n a) b := List.foldl_append
theorem quickRun_snoc (n : Nat) (a : List UInt8) (c : UInt8) : quickRun n (a ++ [c]) = quickStep (quickRun n a) c.toNat := by
  rw [quickRun_append]
  generalize quickRun n a = m
  unfold quickRun
  rw [List.foldl_cons, List.foldl_nil]
theorem xor_lt64 (a b : Nat) (ha : a < 18446744073709551616) (hb : b < 18446744073709551616) : a ^^^ b < 18446744073709551616 := Nat.xor_lt_two_pow (n := 64) ha hb
theorem mul_inj_gen (M p q k x y : Nat) (hk : p * q = k * M + 1) (hx : x < M) (hy : y < M) (h : x * p % M = y * p % M) : x = y := by
  have e : ∀ z : Nat, z < M → z * p % M * q % M = z := by
    intro z hz
    rw [Nat.mod_mul_mod, Nat.mul_assoc, hk, Nat.mul_add, Nat.mul_one, ← Nat.mul_assoc, Nat.mul_add_mod_self_right, Nat.mod_eq_of_lt hz]
  rw [← e x hx, ← e y hy, h]
theorem mul_inj (x y : Nat) (hx : x < 18446744073709551616) (hy : y < 18446744073709551616) (h : x * 1099511628211 % 18446744073709551616 = y * 1099511628211 % 18446744073709551616) : x = y :=
  mul_inj_gen 18446744073709551616 1099511628211 14886173955864302971 887285111055 x y (by decide) hx hy h
theorem quickStep_inj (a b c : Nat) (ha : a < 18446744073709551616) (hb : b < 18446744073709551616) (hc : c < 256) (h : quickStep a c = quickStep b c) : a = b :=
  xor_cancel a b c (mul_inj _ _ (xor_lt64 _ _ ha (by omega)) (xor_lt64 _ _ hb (by omega)) h)
theorem quickStep_inj' (a c d : Nat) (ha : a < 18446744073709551616) (hc : c < 256) (hd : d < 256) (h : quickStep a c = quickStep a d) : c = d :=
  xor_cancel' c d a (mul_inj _ _ (xor_lt64 _ _ ha (by omega)) (xor_lt64 _ _ ha (by omega)) h)
theorem quickRun_inj (l : List UInt8) : ∀ a b, a < 18446744073709551616 → b < 18446744073709551616 → quickRun a l = quickRun b l → a = b := by
  induction l with
  | nil => intro a b _ _ h; exact h
  | cons c l ih =>
    intro a b ha hb h
    have h' : quickRun (quickStep a c.toNat) l = quickRun (quickStep b c.toNat) l := by
      simp only [quickRun, List.foldl_cons] at h ⊢
      exact h
    have h2 := ih (quickStep a c.toNat) (quickStep b c.toNat) (quickStep_lt a c.toNat) (quickStep_lt b c.toNat) h'
    have hc := c.toNat_lt
    generalize c.toNat = d at *
    exact quickStep_inj a b d ha hb hc h2
end Go.Proofs.YtjfjliobencppaaGreatDoor

namespace Go.Proofs.YtjfjliobencppaaGreatDoor
open Go.RowKit

theorem and1_32 (m : Nat) (h : m < 4294967296) : bits BinOp.and IntKind.u32 (m : Int) 1 = ((m % 2 : Nat) : Int) := by
  have := u32_and_nat m 1 h (by omega)
  rw [nat_mask1] at this
  exact this
theorem xor_poly (m : Nat) (h : m < 4294967296) : bits BinOp.xor IntKind.u32 ((m : Int) / 2) 2197175160 = ((m / 2 ^^^ poly : Nat) : Int) := by
  have := u32_xor_nat (m / 2) 2197175160 (by omega) (by omega)
  unfold poly
  simpa using this
theorem bit_odd (m : Nat) (h : m < 4294967296) (ho : m % 2 = 1) : bits BinOp.and IntKind.u32 (m : Int) 1 = 1 ∧ bits BinOp.xor IntKind.u32 ((m : Int) / 2) 2197175160 = (bit m : Int) := by
  rw [and1_32 m h, xor_poly m h, ho]
  refine ⟨rfl, ?_⟩
  unfold bit; rw [if_pos ho]
theorem bit_even (m : Nat) (h : m < 4294967296) (ho : ¬ m % 2 = 1) : bits BinOp.and IntKind.u32 (m : Int) 1 = 0 ∧ (m : Int) / 2 = (bit m : Int) := by
  rw [and1_32 m h, show m % 2 = 0 by omega]
  refine ⟨rfl, ?_⟩
  unfold bit; rw [if_neg ho]; simp

/-- What holds at each jump back. -/
def StepJ (N c : Nat) (w : World) (a' : Act) (w' : World) : Prop :=
  w = w' ∧ ∃ (m i : Nat) (u2 u3 u4 u6 u7 u8 u9 u10 u11 u12 u13 u14 u15 u16 u17 u18 u19 u20 u21 u22 : Value), a' = { tmps := #[.int .u32 m, .int .u8 c, u2, u3, u4, .int .i64 i, u6, u7, u8, u9, u10, u11, u12, u13, u14, u15, u16, u17, u18, u19, u20, u21, u22], defers := [] } ∧ m < 4294967296 ∧ i ≤ 7 ∧ bitN (8 - i) m = N

end Go.Proofs.YtjfjliobencppaaGreatDoor

namespace Go.Proofs.YtjfjliobencppaaGreatDoor
open Go.RowKit

/-- The number of a list of bytes, the highest first. -/
def gt (l : List UInt8) : Nat := l.foldl (fun n c => n * 256 + c.toNat) 0
theorem gt_snoc (l : List UInt8) (c : UInt8) : gt (l ++ [c]) = gt l * 256 + c.toNat := by simp [gt]
theorem gt_from (l : List UInt8) : ∀ a : Nat, l.foldl (fun n c => n * 256 + c.toNat) a = a * 256 ^ l.length + gt l := by
  induction l with
  | nil => intro a; simp [gt]
  | cons c l ih =>
    intro a
    have e : gt (c :: l) = c.toNat * 256 ^ l.length + gt l := by
      have := ih (0 * 256 + c.toNat)
      simp only [gt, List.foldl_cons] at *
      rw [this]; simp
    rw [List.foldl_cons, ih, e, List.length_cons, Nat.pow_succ, Nat.add_mul]
    rw [Nat.mul_assoc, Nat.mul_comm 256 (256 ^ l.length), Nat.add_assoc]
theorem gt_cons (c : UInt8) (l : List UInt8) : gt (c :: l) = c.toNat * 256 ^ l.length + gt l := by
  have := gt_from l (0 * 256 + c.toNat)
  simp only [gt, List.foldl_cons] at *
  rw [this]; simp
theorem gt_lt (l : List UInt8) : gt l < 256 ^ l.length := by
  induction l with
  | nil => simp [gt]
  | cons c l ih =>
    rw [gt_cons, List.length_cons, Nat.pow_succ]
    have h := c.toNat_lt
    have h2 : c.toNat * 256 ^ l.length ≤ 255 * 256 ^ l.length := Nat.mul_le_mul_right _ (by omega)
    omega

theorem take_snoc (s : ByteArray) (k : Nat) (h : k < s.size) : s.data.toList.take (k + 1) = s.data.toList.take k ++ [s[k]] := by
  rw [List.take_succ_eq_append_getElem (by simpa using h)]; rfl

theorem gt_room (s : ByteArray) (k : Nat) (h : k < s.size) (hm : s.size ≤ 8) : gt (s.data.toList.take k) < 72057594037927936 ∧ gt (s.data.toList.take (k + 1)) = gt (s.data.toList.take k) * 256 + s[k].toNat := by
  have h1 := gt_lt (s.data.toList.take k)
  have h2 : (s.data.toList.take k).length ≤ 7 := by
    have := List.length_take_le k s.data.toList
    omega
  have h3 : 256 ^ (s.data.toList.take k).length ≤ 256 ^ 7 := Nat.pow_le_pow_right (by omega) h2
  refine ⟨by omega, ?_⟩
  rw [take_snoc s k h, gt_snoc]

theorem get_step (s : ByteArray) (k : Nat) (h : k < s.size) (hm : s.size ≤ 8) :
    bits BinOp.or IntKind.u64 (IntKind.u64.wrap ((gt (s.data.toList.take k) : Int) * 256)) (IntKind.u64.wrap (s[k].toNat : Int)) = ((gt (s.data.toList.take (k + 1)) : Nat) : Int) := by
  obtain ⟨h1, h2⟩ := gt_room s k h hm
  have h3 := s[k].toNat_lt
  rw [h2]
  generalize gt (s.data.toList.take k) = g at *
  generalize s[k].toNat = c at *
  rw [IntWalk.u64_in _ ⟨by omega, by omega⟩, IntWalk.u64_in _ ⟨by omega, by omega⟩]
  have := u64_or_nat (g * 256) c (by omega) (by omega)
  rw [nat_join 8 (g * 256) c (by omega) (by omega)] at this
  simpa using this

theorem rget_step (s : ByteArray) (k : Nat) (h : k < s.size) (hm : s.size ≤ 8) :
    IntKind.u64.wrap (IntKind.u64.wrap ((gt (s.data.toList.take k) : Int) * 256) + IntKind.u64.wrap (s[k].toNat : Int)) = ((gt (s.data.toList.take (k + 1)) : Nat) : Int) := by
  obtain ⟨h1, h2⟩ := gt_room s k h hm
  have h3 := s[k].toNat_lt
  rw [h2]
  generalize gt (s.data.toList.take k) = g at *
  generalize s[k].toNat = c at *
  rw [IntWalk.u64_in (g * 256 : Int) ⟨by omega, by omega⟩, IntWalk.u64_in (c : Int) ⟨by omega, by omega⟩, IntWalk.u64_in _ ⟨by omega, by omega⟩]
  omega

theorem get_short (s : ByteArray) (hs : s.size = 0) (w : World) : Calls Tryz.prog 138 #[.string s] w fun e w' => e = .returned (.tuple #[.int .u64 0, .int .i64 3]) ∧ w = w' := by
  go_enter Tryz.func138, Tryz.ntmps138
  go_wp2
  go_ret2
  exact ⟨rfl, rfl⟩

theorem get_long (s : ByteArray) (hs : 8 < s.size) (hm : s.size ≤ 100) (w : World) : Calls Tryz.prog 138 #[.string s] w fun e w' => e = .returned (.tuple #[.int .u64 0, .int .i64 5]) ∧ w = w' := by
  go_enter Tryz.func138, Tryz.ntmps138
  go_wp2
  go_ret2
  exact ⟨rfl, rfl⟩

theorem get_ok (s : ByteArray) (hs : 1 ≤ s.size) (hm : s.size ≤ 8) (w : World) : Calls Tryz.prog 138 #[.string s] w fun e w' => e = .returned (.tuple #[.int .u64 (gt s.data.toList), .int .i64 0]) ∧ w = w' := by
  go_enter Tryz.func138, Tryz.ntmps138
  go_wp2
  go_loop [4, 14] (fun n i => ∃ k : Nat, k ≤ s.size ∧ i = .int .i64 k ∧ n = .int .u64 (gt (s.data.toList.take k))) (fun _ i => s.size - (intOf i).toNat)
  case atStart => exact ⟨0, Nat.zero_le _, rfl, rfl⟩
  case round =>
    obtain ⟨k, hk, rfl, rfl⟩ := hrel
    by_cases hlt : k < s.size
    · have HS := Lib.hid (get_step s k hlt hm)
      go_wp2
      go_round
      case rel => exact ⟨k + 1, by omega, by go_num, by rw [← HS.out]⟩
      case measure => simp [intOf]; omega
    · go_wp2
      go_ret2
      have e : k = s.size := by omega
      subst e
      refine ⟨?_, rfl⟩
      rw [List.take_of_length_le (by simp)]
      rfl

end Go.Proofs.YtjfjliobencppaaGreatDoor
