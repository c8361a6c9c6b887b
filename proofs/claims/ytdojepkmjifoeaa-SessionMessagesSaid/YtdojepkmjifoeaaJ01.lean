/- YtdojepkmjifoeaaI; word.Long of what Short has written.; word.Long of any text. -/
import Derived.Test.YtdojepkmjifoeaaJ00
set_option linter.unusedVariables false
set_option linter.unusedSimpArgs false
namespace Go.Proofs.Ytdojepkmjifoeaa
open Go.RowKit

/-- 'string([]byte{c})' of a slice just laid. -/
theorem run_one_byte (W : World) (c : Int) (n : Nat) (hc : c = (n : Int)) (hn : n < 256) :
    (convert 94 9 (.slice (some ⟨W.heap.size, 0, none⟩) 1 1)).run Try.prog (W.alloc (.cells #[.int .u8 c] 5)) = .ok (.string (str [UInt8.ofNat n])) (W.alloc (.cells #[.int .u8 c] 5)) := by
  subst hc
  refine run_convert_bytes_back (P := Try.prog) (W.alloc (.cells #[.int .u8 (n : Int)] 5)) 94 9 5 ⟨W.heap.size, 0, none⟩ 1 [UInt8.ofNat n] Try.underlying94 Try.underlying5 Try.underlying9 ?_
  intro j hj
  match j, hj with
  | 0, _ => simp [Addr.add, Nat.mod_eq_of_lt hn]

theorem ofNat_mod (d : Nat) : UInt8.ofNat (d % 256) = UInt8.ofNat d := by
  rw [← UInt8.toNat_inj]; simp
theorem str_append (a b : List UInt8) : str a ++ str b = str (a ++ b) := by
  apply ByteArray.ext
  simp [str]
theorem size_str (a : List UInt8) : (str a).size = a.length := by simp [str, ByteArray.size]
theorem run_str_add (a b : List UInt8) (h : a.length + b.length ≤ 1000000000) (W : World) : (Op.stringOp .add (str a) (str b)).run Try.prog W = .ok (.string (str (a ++ b))) W := by
  rw [run_string_add_sum W (str a) (str b) (by rw [size_str, size_str]; omega), str_append]

set_option maxRecDepth 1000000 in
theorem rput_any (n : Nat) (size : Int) (hn : n ≤ 18446744073709551615) (w : World) :
    Calls Try.prog 48 #[.int .u64 n, .int .i64 size] w fun e w' => e = .returned (.string (str (be n (clip size)))) ∧ Below w.heap.size w w' := by
  have HN := Lib.hid hn
  clear hn
  go_enter Try.func48, Try.ntmps48
  go_wp2
  go_loopw [0, 5, 6] (fun m t i wr => ∃ k : Nat, k ≤ clip size ∧ i = .int .i64 k ∧ m = .int .u64 ((n / 256 ^ k : Nat) : Int) ∧ t = .string (str (be n k)) ∧ Below w.heap.size w wr) (fun _ _ i _ => 8 - (intOf i).toNat)
  case atStart => exact ⟨0, Nat.zero_le _, rfl, by simp, rfl, Below.refl _ _⟩
  case round =>
    obtain ⟨k, hk, rfl, rfl, rfl, hb⟩ := hrel
    by_cases h1 : (k : Int) < size
    · by_cases h2 : k < 8
      · obtain ⟨d, hd⟩ : ∃ d, d = n / 256 ^ k := ⟨_, rfl⟩
        rw [← hd]
        have hd2 : d ≤ 18446744073709551615 := by
          rw [hd]; exact Nat.le_trans (Nat.div_le_self _ _) HN.out
        have hcv := run_one_byte wr ((d : Int) % 256) (d % 256) (by simp) (Nat.mod_lt _ (by omega))
        have hadd := run_str_add [UInt8.ofNat (d % 256)] (be n k) (by rw [be_length]; simp; omega)
        have hnext : UInt8.ofNat (d % 256) :: be n k = be n (k + 1) := by
          rw [be, ← hd]
          congr 1
          exact (ofNat_mod d)
        have hquo : (d : Int) / 256 = ((n / 256 ^ (k + 1) : Nat) : Int) := by
          rw [Nat.pow_succ, ← Nat.div_div_eq_div_mul, ← hd]; simp
        have hbB := hb.size
        have HD := Lib.hid hd
        have HX := Lib.hid hnext
        have HQ := Lib.hid hquo
        clear hd hnext hquo
        go_wp2
        go_roundw
        case rel => exact ⟨k + 1, by unfold clip; omega, by go_num, by rw [← HQ.out], by rw [← HX.out], hb.alloc hbB _⟩
        case measure => simp [intOf]; omega
      · go_wp2
        go_ret
        refine ⟨?_, hb⟩
        have e : k = clip size := by unfold clip at *; omega
        rw [← e]; rfl
    · go_wp2
      go_ret
      refine ⟨?_, hb⟩
      have e : k = clip size := by unfold clip at *; omega
      rw [← e]; rfl
end Go.Proofs.Ytdojepkmjifoeaa

namespace Go.Proofs.Ytdojepkmjifoeaa
open Go.RowKit

/-- At 'next', j bytes read. -/
def LongJ (n : Nat) (rest : List UInt8) (s : ByteArray) (w : World) (a' : Act) (w' : World) : Prop :=
  w' = w ∧ ∃ (j m acc : Nat) (u1 u2 u3 u4 u7 u8 u9 u10 u11 u12 u13 u14 u15 u16 u17 u18 u19 u20 u21 u22 u23 u24 u25 u26 u27 u28 u29 u30 u31 u32 u33 u34 u35 u36 u37 u38 u39 u40 u41 u42 : Value),
    a' = { tmps := #[.string s, u1, u2, u3, u4, .int .u64 acc, .int .i64 j, u7, u8, u9, u10, u11, u12, u13, u14, u15, u16, u17, u18, u19, u20, u21, u22, u23, u24, u25, u26, u27, u28, u29, u30, u31, u32, u33, u34, u35, u36, u37, u38, u39, u40, u41, u42], defers := [] } ∧
    1 ≤ j ∧ 1 ≤ m ∧ n = acc + 128 ^ j * m ∧ acc < 128 ^ j ∧ s.data.toList.drop j = sh m ++ rest ∧ j + (sh m).length = (sh n).length

theorem pow7 (j : Nat) : (2 : Nat) ^ (7 * j) = 128 ^ j := by rw [Nat.pow_mul]
/-- What one byte of a number by sevens does. -/
theorem long_step (n j m acc r : Nat) (hn : n ≤ 18446744073709551615) (hnm : n = acc + 128 ^ j * m) (hacc : acc < 128 ^ j) (hr : r = m % 128) :
    IntKind.u64.wrap ((r : Int) * 2 ^ (7 * j)) = ((128 ^ j * r : Nat) : Int) ∧ bits BinOp.or IntKind.u64 (acc : Int) ((128 ^ j * r : Nat) : Int) = ((acc + 128 ^ j * r : Nat) : Int) := by
  have h1 : 128 ^ j * r ≤ 128 ^ j * m := Nat.mul_le_mul_left _ (by omega)
  have e : ((r : Int) * 2 ^ (7 * j)) = ((128 ^ j * r : Nat) : Int) := by
    have h2 : (2 : Int) ^ (7 * j) = ((2 ^ (7 * j) : Nat) : Int) := by simp
    rw [h2, pow7, Nat.mul_comm]; simp
  rw [e]
  generalize hx : 128 ^ j * r = x at *
  refine ⟨IntWalk.u64_in _ (by omega), ?_⟩
  rw [u64_or_nat acc x (by omega) (by omega), Nat.or_comm, nat_join (7 * j) x acc (by rw [pow7, ← hx]; exact Nat.mul_mod_right _ _) (by rw [pow7]; exact hacc)]
  congr 1; omega
theorem mask_byte (c : Nat) (h : c < 256) : bits BinOp.and IntKind.u8 (c : Int) 127 = ((c % 128 : Nat) : Int) := by
  have := u8_and_nat c 127 (by omega) (by omega)
  rw [nat_mask7] at this
  exact this

set_option maxRecDepth 1000000 in
set_option maxHeartbeats 1000000 in
theorem long_ok (n : Nat) (rest : List UInt8) (s : ByteArray) (hn : n ≤ 18446744073709551615) (hs : s.data.toList = sh n ++ rest) (hmax : s.size ≤ 1000000000) (w : World) :
    Calls Try.prog 73 #[.string s] w fun e w' => e = .returned (.tuple #[.int .u64 n, .int .i64 ((sh n).length : Nat), .int .i64 0]) ∧ w = w' := by
  have HN := Lib.hid hn
  have HS := Lib.hid hs
  have hl : s.data.toList.length = s.size := by simp
  have h0 : 0 < s.size := by rw [← hl, hs]; have := sh_pos n; simp; omega
  have hz : ((s.size : Int) == 0) = false := by rw [beq_eq_false_iff_ne]; omega
  have hz2 : ((0 : Int) == (s.size : Int)) = false := by rw [beq_eq_false_iff_ne]; omega
  clear hn hs hl
  go_enter Try.func73, Try.ntmps73
  go_wp2
  refine wp_scope_jumps 0 (LongJ n rest s w) (fun a' _ => 20 - (intOf (a'.tmps.getD 6 undef)).toNat) rfl ?_ ?_
  · obtain ⟨r, hr⟩ : ∃ r, r = n % 128 := ⟨_, rfl⟩
    have f2 : IntKind.u64.wrap (r : Int) = (r : Int) := IntWalk.u64_in _ (by omega)
    have f5 : bits BinOp.or IntKind.u64 0 (r : Int) = (r : Int) := by
      have := u64_or_nat 0 r (by omega) (by omega)
      rw [Nat.zero_or] at this
      exact this
    have h2 : s.data.toList[0]? = some s[0] := by
      rw [List.getElem?_eq_getElem (by simpa using h0)]; rfl
    by_cases hm : 127 < n
    · have hcm : s[0].toNat = r + 128 := by
        rw [HS.out, sh_more n hm] at h2
        simp only [List.cons_append, List.getElem?_cons_zero] at h2
        injection h2 with h2
        rw [← h2, UInt8.toNat_ofNat', hr]; omega
      have f1 : bits BinOp.and IntKind.u8 (s[0].toNat : Int) 127 = (r : Int) := by
        rw [mask_byte _ s[0].toNat_lt, hcm]; congr 1; omega
      have g1 : (128 : Int) ≤ (s[0].toNat : Int) := by rw [hcm]; omega
      have hd2 : s.data.toList.drop 1 = sh (n / 128) ++ rest := by
        rw [HS.out, sh_more n hm]; simp
      have hn2 : n = r + 128 ^ 1 * (n / 128) := by rw [Nat.pow_one]; omega
      have hl2 : 1 + (sh (n / 128)).length = (sh n).length := by
        conv => rhs; rw [sh_more n hm]
        simp; omega
      have hm2 : 1 ≤ n / 128 := by omega
      have hlt : r < 128 ^ 1 := by rw [Nat.pow_one]; omega
      generalize n / 128 = m2 at *
      have HD2 := Lib.hid hd2
      have HN2 := Lib.hid hn2
      have HL2 := Lib.hid hl2
      have HLT := Lib.hid hlt
      clear hd2 hn2 hl2 hlt hcm hr h2
      go_wp2
      go_step3
      go_wp2
      go_step3
      exact ⟨rfl, rfl, 1, m2, r, _, _, _, _, _, _, _, _, _, _, _, _, _, _, _, _, _, _, _, _, _, _, _, _, _, _, _, _, _, _, _, _, _, _, _, _, _, _, _, _, rfl, Nat.le_refl _, hm2, HN2.out, HLT.out, HD2.out, HL2.out⟩
    · have hcm : s[0].toNat = n := by
        rw [HS.out, sh_last n hm] at h2
        simp only [List.cons_append, List.getElem?_cons_zero] at h2
        injection h2 with h2
        rw [← h2, UInt8.toNat_ofNat']; omega
      have hrn : r = n := by omega
      rw [hrn] at f2 f5
      have f1 : bits BinOp.and IntKind.u8 (s[0].toNat : Int) 127 = (n : Int) := by
        rw [mask_byte _ s[0].toNat_lt, hcm]; congr 1; omega
      have g1 : ¬ (128 : Int) ≤ (s[0].toNat : Int) := by rw [hcm]; omega
      have hl2 : (sh n).length = 1 := by rw [sh_last n hm]; rfl
      have HL2 := Lib.hid hl2
      clear hl2 hcm hr hrn h2
      go_wp2
      go_step3
      go_wp2
      simp only [Exit.jump]
      refine bodyPost_ret (v := .tuple #[.int .u64 n, .int .i64 1, .int .i64 0]) (by simp [results, Try.results73, go_sem]) rfl ⟨?_, rfl⟩
      rw [HL2.out]
      rfl
  · rintro a' w' ⟨rfl, j, m, acc, u1, u2, u3, u4, u7, u8, u9, u10, u11, u12, u13, u14, u15, u16, u17, u18, u19, u20, u21, u22, u23, u24, u25, u26, u27, u28, u29, u30, u31, u32, u33, u34, u35, u36, u37, u38, u39, u40, u41, u42, rfl, hj1, hm1, hnm, hacc, hd, hlen⟩
    have hj9 : j ≤ 9 := by
      have h1 := sh_ten n HN.out
      have h2 := sh_pos m
      omega
    have hj10 : ((j : Int) == 10) = false := by rw [beq_eq_false_iff_ne]; omega
    have hl : s.data.toList.length = s.size := by simp
    have hjs : j < s.size := by
      have h1 := congrArg List.length hd
      have h2 := sh_pos m
      simp at h1; omega
    have hjs2 : ((j : Int) == (s.size : Int)) = false := by rw [beq_eq_false_iff_ne]; omega
    have ij : (j : Int) < (s.size : Int) := by omega
    have ij9 : (j : Int) ≤ 9 := by omega
    have HD := Lib.hid hd
    have HA := Lib.hid hacc
    have HNM := Lib.hid hnm
    have HLEN := Lib.hid hlen
    clear hd hacc hnm hlen hz hz2 h0 hl
    obtain ⟨r, hr⟩ : ∃ r, r = m % 128 := ⟨_, rfl⟩
    obtain ⟨q3, q4⟩ := long_step n j m acc r HN.out HNM.out HA.out hr
    have f2 : IntKind.u64.wrap (r : Int) = (r : Int) := IntWalk.u64_in _ (by omega)
    have hlt : acc + 128 ^ j * r < 128 ^ (j + 1) := by
      have h1 : 128 ^ j * r ≤ 128 ^ j * 127 := Nat.mul_le_mul_left _ (by omega)
      have h2 := HA.out
      rw [Nat.pow_succ]; omega
    by_cases hm : 127 < m
    · have hcm : s[j].toNat = r + 128 := by
        have h1 := congrArg (fun l => l[0]?) HD.out
        rw [sh_more m hm] at h1
        simp only [List.getElem?_drop, Nat.add_zero, List.cons_append, List.getElem?_cons_zero] at h1
        have h2 : s.data.toList[j]? = some s[j] := by
          rw [List.getElem?_eq_getElem (by simpa using hjs)]; rfl
        rw [h2] at h1
        injection h1 with h1
        rw [h1, UInt8.toNat_ofNat', hr]; omega
      have f1 : bits BinOp.and IntKind.u8 (s[j].toNat : Int) 127 = (r : Int) := by
        rw [mask_byte _ s[j].toNat_lt, hcm]; congr 1; omega
      have g1 : (128 : Int) ≤ (s[j].toNat : Int) := by rw [hcm]; omega
      have hd2 : s.data.toList.drop (j + 1) = sh (m / 128) ++ rest := by
        have h1 := congrArg (List.drop 1) HD.out
        rw [List.drop_drop, sh_more m hm] at h1
        simpa using h1
      have hn2 : n = (acc + 128 ^ j * r) + 128 ^ (j + 1) * (m / 128) := by
        have h1 := HNM.out
        have h2 : m = 128 * (m / 128) + r := by omega
        rw [Nat.pow_succ, Nat.mul_assoc, Nat.add_assoc, ← Nat.mul_add, Nat.add_comm r, ← h2]
        exact h1
      have hl2 : j + 1 + (sh (m / 128)).length = (sh n).length := by
        have h1 := HLEN.out
        rw [sh_more m hm] at h1
        simp at h1; omega
      have hm2 : 1 ≤ m / 128 := by omega
      generalize 128 ^ j * r = x at *
      generalize m / 128 = m2 at *
      generalize acc + x = acc2 at *
      have HD2 := Lib.hid hd2
      have HN2 := Lib.hid hn2
      have HL2 := Lib.hid hl2
      have HLT := Lib.hid hlt
      clear hd2 hn2 hl2 hlt hcm hr
      go_wp2
      go_step3
      refine ⟨rfl, ⟨rfl, j + 1, m2, acc2, _, _, _, _, _, _, _, _, _, _, _, _, _, _, _, _, _, _, _, _, _, _, _, _, _, _, _, _, _, _, _, _, _, _, _, _, _, _, _, _, rfl, by omega, hm2, HN2.out, HLT.out, HD2.out, HL2.out⟩, ?_⟩
      simp [intOf]; omega
    · have hcm : s[j].toNat = m := by
        have h1 := congrArg (fun l => l[0]?) HD.out
        rw [sh_last m hm] at h1
        simp only [List.getElem?_drop, Nat.add_zero, List.cons_append, List.getElem?_cons_zero] at h1
        have h2 : s.data.toList[j]? = some s[j] := by
          rw [List.getElem?_eq_getElem (by simpa using hjs)]; rfl
        rw [h2] at h1
        injection h1 with h1
        rw [h1, UInt8.toNat_ofNat']; omega
      have f1 : bits BinOp.and IntKind.u8 (s[j].toNat : Int) 127 = (r : Int) := by
        rw [mask_byte _ s[j].toNat_lt, hcm]; congr 1; omega
      have g1 : ¬ (128 : Int) ≤ (s[j].toNat : Int) := by rw [hcm]; omega
      have g2 : ((s[j].toNat : Int) == 0) = false := by rw [hcm, beq_eq_false_iff_ne]; omega
      have hn2 : acc + 128 ^ j * r = n := by
        rw [HNM.out, hr, Nat.mod_eq_of_lt (by omega)]
      have hl2 : (sh n).length = j + 1 := by
        have h1 := HLEN.out
        rw [sh_last m hm] at h1
        simp at h1; omega
      have hg3 : j = 9 → m ≤ 1 := by
        intro h
        have h1 := HNM.out
        have h2 := HN.out
        rw [h] at h1
        have h3 : (128 : Nat) ^ 9 = 9223372036854775808 := by rfl
        rw [h3] at h1; omega
      rw [hn2] at q4
      generalize 128 ^ j * r = x at *
      have HL2 := Lib.hid hl2
      clear hn2 hlt hr
      by_cases h9 : j = 9
      · have g3 : ¬ (1 : Int) < (s[j].toNat : Int) := by rw [hcm]; have := hg3 h9; omega
        have hj1 : ((j : Int) + 1 == 10) = true := by rw [beq_iff_eq]; omega
        have H9 := Lib.hid h9
        clear hg3 hcm h9 hl2
        go_wp2
        simp only [Exit.jump]
        refine bodyPost_ret (v := .tuple #[.int .u64 n, .int .i64 ((j : Int) + 1), .int .i64 0]) (by simp [results, Try.results73, go_sem]) rfl ⟨?_, rfl⟩
        rw [HL2.out]
        rfl
      · have hj1 : ((j : Int) + 1 == 10) = false := by rw [beq_eq_false_iff_ne]; omega
        clear hg3 hcm h9 hl2
        go_wp2
        simp only [Exit.jump]
        refine bodyPost_ret (v := .tuple #[.int .u64 n, .int .i64 ((j : Int) + 1), .int .i64 0]) (by simp [results, Try.results73, go_sem]) rfl ⟨?_, rfl⟩
        rw [HL2.out]
        rfl
end Go.Proofs.Ytdojepkmjifoeaa

namespace Go.Proofs.Ytdojepkmjifoeaa
open Go.RowKit

/-- The number by sevens that a text begins with: it, of how many bytes, the error. -/
def lngA (acc j : Nat) : List UInt8 → Nat × Nat × Nat
  | [] => if j = 10 then (0, 0, 4) else (0, 0, 3)
  | c :: cs => if j = 10 then (0, 0, 4) else if 128 ≤ c.toNat then lngA (acc + 128 ^ j * (c.toNat % 128)) (j + 1) cs else if 0 < j ∧ c.toNat = 0 then (0, 0, 4) else if j = 9 ∧ 1 < c.toNat then (0, 0, 4) else (acc + 128 ^ j * c.toNat, j + 1, 0)

theorem lngA_sh (rest : List UInt8) : ∀ (m n j acc : Nat), n ≤ 18446744073709551615 → 1 ≤ m ∨ j = 0 → n = acc + 128 ^ j * m → acc < 128 ^ j → j + (sh m).length = (sh n).length → lngA acc j (sh m ++ rest) = (n, (sh n).length, 0) := by
  intro m
  induction m using Nat.strongRecOn with
  | _ m ih =>
    intro n j acc hn hm1 hnm hacc hlen
    have h10 := sh_ten n hn
    have hp := sh_pos m
    have hj : j ≠ 10 := by omega
    by_cases hm : 127 < m
    · rw [sh_more m hm] at hlen ⊢
      rw [List.cons_append, lngA, if_neg hj]
      have hc : (UInt8.ofNat (m % 128 + 128)).toNat = m % 128 + 128 := by rw [UInt8.toNat_ofNat']; omega
      rw [hc, if_pos (by omega), show (m % 128 + 128) % 128 = m % 128 by omega]
      refine ih (m / 128) (by omega) n (j + 1) _ hn (Or.inl (by omega)) ?_ ?_ ?_
      · have h2 : m = 128 * (m / 128) + m % 128 := by omega
        rw [Nat.pow_succ, Nat.mul_assoc, Nat.add_assoc, ← Nat.mul_add, Nat.add_comm (m % 128), ← h2]
        exact hnm
      · have h1 : 128 ^ j * (m % 128) ≤ 128 ^ j * 127 := Nat.mul_le_mul_left _ (by omega)
        rw [Nat.pow_succ]; omega
      · simp only [List.length_cons] at hlen; omega
    · rw [sh_last m hm] at hlen ⊢
      rw [List.cons_append, lngA, if_neg hj]
      have hc : (UInt8.ofNat m).toNat = m := by rw [UInt8.toNat_ofNat']; omega
      rw [hc, if_neg (by omega), if_neg (by omega)]
      have h9 : ¬ (j = 9 ∧ 1 < m) := by
        rintro ⟨h, hm2⟩
        subst h
        have h3 : (128 : Nat) ^ 9 = 9223372036854775808 := by rfl
        rw [h3] at hnm; omega
      rw [if_neg h9, ← hnm]
      simp only [List.length_cons, List.length_nil] at hlen
      rw [← hlen]
theorem lngA_ok (n : Nat) (rest : List UInt8) (hn : n ≤ 18446744073709551615) : lngA 0 0 (sh n ++ rest) = (n, (sh n).length, 0) :=
  lngA_sh rest n n 0 0 hn (Or.inr rfl) (by simp) (by simp) (by simp)

theorem lngA_at (s : ByteArray) (j acc : Nat) (h : j < s.size) : lngA acc j (s.data.toList.drop j) = if j = 10 then (0, 0, 4) else if 128 ≤ s[j].toNat then lngA (acc + 128 ^ j * (s[j].toNat % 128)) (j + 1) (s.data.toList.drop (j + 1)) else if 0 < j ∧ s[j].toNat = 0 then (0, 0, 4) else if j = 9 ∧ 1 < s[j].toNat then (0, 0, 4) else (acc + 128 ^ j * s[j].toNat, j + 1, 0) := by
  have hl : j < s.data.toList.length := by simpa using h
  rw [List.drop_eq_getElem_cons hl, lngA]
  rfl
theorem lngA_ten (l : List UInt8) (acc : Nat) : lngA acc 10 l = (0, 0, 4) := by
  cases l <;> (rw [lngA]; simp)
theorem lngA_nil (j acc : Nat) (h : j ≠ 10) : lngA acc j [] = (0, 0, 3) := by rw [lngA, if_neg h]

/-- At 'next', j bytes read. -/
def LongK (s : ByteArray) (R : Nat × Nat × Nat) (w : World) (a' : Act) (w' : World) : Prop :=
  w' = w ∧ ∃ (j acc : Nat) (z : Int) (u1 u2 u3 u4 u7 u8 u9 u10 u11 u12 u13 u14 u15 u16 u17 u18 u19 u20 u21 u22 u23 u24 u25 u26 u27 u28 u29 u30 u31 u32 u33 u34 u35 u36 u37 u38 u39 u40 u41 u42 : Value),
    a' = { tmps := #[.string s, u1, u2, u3, u4, .int .u64 z, .int .i64 j, u7, u8, u9, u10, u11, u12, u13, u14, u15, u16, u17, u18, u19, u20, u21, u22, u23, u24, u25, u26, u27, u28, u29, u30, u31, u32, u33, u34, u35, u36, u37, u38, u39, u40, u41, u42], defers := [] } ∧
    1 ≤ j ∧ j ≤ 10 ∧ j ≤ s.size ∧ (j ≤ 9 → z = (acc : Int) ∧ acc < 128 ^ j) ∧ lngA acc j (s.data.toList.drop j) = R

def lonV (R : Nat × Nat × Nat) : Value := .tuple #[.int .u64 (R.1 : Int), .int .i64 (R.2.1 : Int), .int .i64 (R.2.2 : Int)]
theorem long_next (j acc c : Nat) (hj : j ≤ 8) (hacc : acc < 128 ^ j) (hc : c < 256) :
    bits BinOp.or IntKind.u64 (acc : Int) (IntKind.u64.wrap (((c % 128 : Nat) : Int) * 2 ^ (7 * j))) = ((acc + 128 ^ j * (c % 128) : Nat) : Int) ∧ acc + 128 ^ j * (c % 128) < 128 ^ (j + 1) := by
  have h1 : 128 ^ j * (c % 128) ≤ 128 ^ j * 127 := Nat.mul_le_mul_left _ (by omega)
  have h2 : (128 : Nat) ^ j ≤ 128 ^ 8 := Nat.pow_le_pow_right (by omega) hj
  have h3 : (128 : Nat) ^ 8 = 72057594037927936 := by rfl
  have hs := long_step (acc + 128 ^ j * (c % 128)) j (c % 128) acc (c % 128) (by omega) rfl hacc (by omega)
  rw [hs.1, hs.2]
  exact ⟨rfl, by rw [Nat.pow_succ]; omega⟩

set_option maxRecDepth 1000000 in
set_option maxHeartbeats 1000000 in
theorem long_any (s : ByteArray) (hmax : s.size ≤ 1000000000) (w : World) : Calls Try.prog 73 #[.string s] w fun e w' => e = .returned (lonV (lngA 0 0 s.data.toList)) ∧ w = w' := by
  obtain ⟨R, hR⟩ : ∃ R, lngA 0 0 s.data.toList = R := ⟨_, rfl⟩
  rw [hR]
  have HR := Lib.hid hR
  have HM := Lib.hid hmax
  clear hR
  go_enter Try.func73, Try.ntmps73
  go_wp2
  refine wp_scope_jumps 0 (LongK s R w) (fun a' _ => 20 - (intOf (a'.tmps.getD 6 undef)).toNat) rfl ?_ ?_
  · by_cases h0 : s.size = 0
    · have hz : ((0 : Int) == (s.size : Int)) = true := by rw [beq_iff_eq]; omega
      have hz2 : ((s.size : Int) == 0) = true := by rw [beq_iff_eq]; omega
      have hl : s.data.toList = [] := List.eq_nil_of_length_eq_zero (by simpa using h0)
      have hr : R = (0, 0, 3) := by rw [← HR.out, hl]; rfl
      have HRR := Lib.hid hr
      clear hl hr h0
      go_wp2
      go_step3
      go_wp2
      simp only [Exit.jump]
      refine bodyPost_ret (v := .tuple #[.int .u64 0, .int .i64 0, .int .i64 3]) (by simp [results, Try.results73, go_sem]) rfl ⟨?_, rfl⟩
      rw [HRR.out]; rfl
    · have hz : ((s.size : Int) == 0) = false := by rw [beq_eq_false_iff_ne]; omega
      have hz2 : ((0 : Int) == (s.size : Int)) = false := by rw [beq_eq_false_iff_ne]; omega
      have hat := lngA_at s 0 0 (by omega)
      rw [List.drop_zero, HR.out, if_neg (by omega)] at hat
      have f1 : bits BinOp.and IntKind.u8 (s[0].toNat : Int) 127 = ((s[0].toNat % 128 : Nat) : Int) := mask_byte _ s[0].toNat_lt
      have f2 : IntKind.u64.wrap ((s[0].toNat % 128 : Nat) : Int) = ((s[0].toNat % 128 : Nat) : Int) := IntWalk.u64_in _ (by omega)
      have f5 : bits BinOp.or IntKind.u64 0 ((s[0].toNat % 128 : Nat) : Int) = ((s[0].toNat % 128 : Nat) : Int) := by
        have := u64_or_nat 0 (s[0].toNat % 128) (by omega) (by omega)
        rw [Nat.zero_or] at this
        exact this
      have h0' : 0 < s.size := by omega
      obtain ⟨c, hc⟩ : ∃ c, s[0].toNat = c := ⟨_, rfl⟩
      have hc256 : c < 256 := by rw [← hc]; exact s[0].toNat_lt
      obtain ⟨r, hr⟩ : ∃ r, r = c % 128 := ⟨_, rfl⟩
      rw [hc, ← hr] at f1 f2 f5
      rw [hc] at hat
      have HRC := Lib.hid hr
      by_cases h128 : 128 ≤ c
      · have g1 : (128 : Int) ≤ (c : Int) := by omega
        rw [if_pos h128] at hat
        have HAT := Lib.hid hat
        have HS := Lib.hid (show 1 ≤ s.size by omega)
        clear hat hr
        go_wp2
        go_step3
        go_wp2
        go_step3
        refine ⟨rfl, rfl, 1, r, (r : Int), _, _, _, _, _, _, _, _, _, _, _, _, _, _, _, _, _, _, _, _, _, _, _, _, _, _, _, _, _, _, _, _, _, _, _, _, _, _, _, _, rfl, Nat.le_refl _, by omega, HS.out, fun _ => ⟨rfl, ?_⟩, ?_⟩
        · rw [Nat.pow_one, HRC.out]; omega
        · rw [HAT.out, HRC.out]; simp
      · have g1 : ¬ (128 : Int) ≤ (c : Int) := by omega
        rw [if_neg h128, if_neg (by omega), if_neg (by omega)] at hat
        have hrc : r = c := by omega
        rw [hrc] at f1 f2 f5
        have HRR : Hid (R = (c, 1, 0)) := Lib.hid (by rw [hat]; simp)
        clear hat hr hrc
        go_wp2
        go_step3
        go_wp2
        simp only [Exit.jump]
        refine bodyPost_ret (v := .tuple #[.int .u64 c, .int .i64 1, .int .i64 0]) (by simp [results, Try.results73, go_sem]) rfl ⟨?_, rfl⟩
        rw [HRR.out]; rfl
  · rintro a' w' ⟨rfl, j, acc, z, u1, u2, u3, u4, u7, u8, u9, u10, u11, u12, u13, u14, u15, u16, u17, u18, u19, u20, u21, u22, u23, u24, u25, u26, u27, u28, u29, u30, u31, u32, u33, u34, u35, u36, u37, u38, u39, u40, u41, u42, rfl, hj1, hj10, hjs, hz, hl⟩
    by_cases h10 : j = 10
    · subst h10
      have hr : R = (0, 0, 4) := by rw [← hl, lngA_ten]
      have HRR := Lib.hid hr
      clear hr hl hz
      go_wp2
      simp only [Exit.jump]
      refine bodyPost_ret (v := .tuple #[.int .u64 0, .int .i64 0, .int .i64 4]) (by simp [results, Try.results73, go_sem]) rfl ⟨?_, rfl⟩
      rw [HRR.out]; rfl
    · have hj10' : ((j : Int) == 10) = false := by rw [beq_eq_false_iff_ne]; omega
      obtain ⟨rfl, hacc⟩ := hz (by omega)
      by_cases hend : j = s.size
      · have he : ((j : Int) == (s.size : Int)) = true := by rw [beq_iff_eq]; omega
        have hr : R = (0, 0, 3) := by
          rw [← hl, List.drop_of_length_le (by simp; omega), lngA_nil _ _ h10]
        have HRR := Lib.hid hr
        clear hr hl hz hend
        go_wp2
        simp only [Exit.jump]
        refine bodyPost_ret (v := .tuple #[.int .u64 0, .int .i64 0, .int .i64 3]) (by simp [results, Try.results73, go_sem]) rfl ⟨?_, rfl⟩
        rw [HRR.out]; rfl
      · have hlt : j < s.size := by omega
        have he : ((j : Int) == (s.size : Int)) = false := by rw [beq_eq_false_iff_ne]; omega
        have ij : (j : Int) < (s.size : Int) := by omega
        have ij9 : (j : Int) ≤ 9 := by omega
        have hat := lngA_at s j acc hlt
        rw [hl, if_neg h10] at hat
        have f1 : bits BinOp.and IntKind.u8 (s[j].toNat : Int) 127 = ((s[j].toNat % 128 : Nat) : Int) := mask_byte _ s[j].toNat_lt
        have f2 : IntKind.u64.wrap ((s[j].toNat % 128 : Nat) : Int) = ((s[j].toNat % 128 : Nat) : Int) := IntWalk.u64_in _ (by omega)
        have hc256 : s[j].toNat < 256 := s[j].toNat_lt
        obtain ⟨c, hc⟩ : ∃ c, s[j].toNat = c := ⟨_, rfl⟩
        rw [hc] at f1 f2 hc256 hat
        obtain ⟨r, hr⟩ : ∃ r, r = c % 128 := ⟨_, rfl⟩
        rw [← hr] at f1 f2
        obtain ⟨Z1, q3⟩ : ∃ z, IntKind.u64.wrap ((r : Int) * 2 ^ (7 * j)) = z := ⟨_, rfl⟩
        obtain ⟨Z2, q4⟩ : ∃ z, bits BinOp.or IntKind.u64 (acc : Int) Z1 = z := ⟨_, rfl⟩
        have HQ : Hid (j ≤ 8 → Z2 = ((acc + 128 ^ j * r : Nat) : Int) ∧ acc + 128 ^ j * r < 128 ^ (j + 1)) := Lib.hid (fun h8 => by
          have := long_next j acc c h8 hacc hc256
          rw [← hr, q3, q4] at this
          exact this)
        have HZ9 : Hid (j = 9 → c ≤ 1 → Z2 = ((acc + 128 ^ j * c : Nat) : Int)) := Lib.hid (fun h9 h1 => by
          have h3 : (128 : Nat) ^ 9 = 9223372036854775808 := by rfl
          have h4 : 128 ^ 9 * c ≤ 128 ^ 9 * 1 := Nat.mul_le_mul_left _ h1
          have := long_step (acc + 128 ^ j * c) j c acc r (by rw [h9] at hacc ⊢; omega) rfl hacc hr
          rw [q3, show r = c by omega] at this
          rw [← q4, this.1, this.2])
        have HRC := Lib.hid hr
        have HLT := Lib.hid hlt
        clear hl hz hacc
        by_cases h128 : 128 ≤ c
        · have g1 : (128 : Int) ≤ (c : Int) := by omega
          rw [if_pos h128] at hat
          have HAT := Lib.hid hat
          clear hat hr
          go_wp2
          go_step3
          refine ⟨rfl, ⟨rfl, j + 1, acc + 128 ^ j * r, Z2, _, _, _, _, _, _, _, _, _, _, _, _, _, _, _, _, _, _, _, _, _, _, _, _, _, _, _, _, _, _, _, _, _, _, _, _, _, _, _, _, rfl, by omega, by omega, HLT.out, fun h => HQ.out (by omega), ?_⟩, ?_⟩
          · rw [HAT.out, HRC.out]
          · simp [intOf]; omega
        · have g1 : ¬ (128 : Int) ≤ (c : Int) := by omega
          rw [if_neg h128] at hat
          by_cases h0 : c = 0
          · have g2 : ((c : Int) == 0) = true := by rw [beq_iff_eq]; omega
            rw [if_pos ⟨hj1, h0⟩] at hat
            have HRR := Lib.hid hat
            clear hat hr h0
            go_wp2
            simp only [Exit.jump]
            refine bodyPost_ret (v := .tuple #[.int .u64 0, .int .i64 0, .int .i64 4]) (by simp [results, Try.results73, go_sem]) rfl ⟨?_, rfl⟩
            rw [HRR.out]; rfl
          · have g2 : ((c : Int) == 0) = false := by rw [beq_eq_false_iff_ne]; omega
            rw [if_neg (fun h => h0 h.2)] at hat
            by_cases h9 : j = 9
            · have hj1' : ((j : Int) + 1 == 10) = true := by rw [beq_iff_eq]; omega
              by_cases h1 : 1 < c
              · have g3 : (1 : Int) < (c : Int) := by omega
                rw [if_pos ⟨h9, h1⟩] at hat
                have HRR := Lib.hid hat
                clear hat hr h9
                go_wp2
                simp only [Exit.jump]
                refine bodyPost_ret (v := .tuple #[.int .u64 0, .int .i64 0, .int .i64 4]) (by simp [results, Try.results73, go_sem]) rfl ⟨?_, rfl⟩
                rw [HRR.out]; rfl
              · have g3 : ¬ (1 : Int) < (c : Int) := by omega
                rw [if_neg (fun h => h1 h.2)] at hat
                have HRR := Lib.hid hat
                have hzz := HZ9.out h9 (by omega)
                have HZZ := Lib.hid hzz
                clear hat hr h9 hzz
                go_wp2
                simp only [Exit.jump]
                refine bodyPost_ret (v := .tuple #[.int .u64 Z2, .int .i64 ((j : Int) + 1), .int .i64 0]) (by simp [results, Try.results73, go_sem]) rfl ⟨?_, rfl⟩
                rw [HRR.out, HZZ.out]; rfl
            · have hj1' : ((j : Int) + 1 == 10) = false := by rw [beq_eq_false_iff_ne]; omega
              rw [if_neg (fun h => h9 h.1)] at hat
              have HRR := Lib.hid hat
              have hrc : r = c := by omega
              have hzz := (HQ.out (by omega)).1
              rw [hrc] at hzz
              have HZZ := Lib.hid hzz
              clear hat hr h9 hzz hrc
              go_wp2
              simp only [Exit.jump]
              refine bodyPost_ret (v := .tuple #[.int .u64 Z2, .int .i64 ((j : Int) + 1), .int .i64 0]) (by simp [results, Try.results73, go_sem]) rfl ⟨?_, rfl⟩
              rw [HRR.out, HZZ.out]; rfl
end Go.Proofs.Ytdojepkmjifoeaa
