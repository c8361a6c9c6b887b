/- The document's Long, plainly: it answers what Long answers.; The document's Short. -/
import Derived.Test.YtdojepkmjifoeaaJ01
import Derived.Test.YtdojepkmjifoeaaJ00
set_option linter.unusedVariables false
set_option linter.unusedSimpArgs false
namespace Go.Proofs.Ytdojepkmjifoeaa
open Go.RowKit

/-- The number that bytes by sevens have. -/
def vl : List UInt8 → Nat
  | [] => 0
  | c :: cs => c.toNat % 128 + 128 * vl cs
theorem vl_app (a : List UInt8) (c : UInt8) : vl (a ++ [c]) = vl a + 128 ^ a.length * (c.toNat % 128) := by
  induction a with
  | nil => simp [vl]
  | cons x xs ih =>
    rw [List.cons_append, vl, vl, ih, List.length_cons, Nat.pow_succ, Nat.mul_add, ← Nat.mul_assoc, Nat.mul_comm 128 (128 ^ xs.length)]
    omega
theorem vl_lt (a : List UInt8) : vl a < 128 ^ a.length := by
  induction a with
  | nil => simp [vl]
  | cons x xs ih =>
    rw [vl, List.length_cons, Nat.pow_succ]
    omega
theorem vl_sh : ∀ n, vl (sh n) = n := by
  intro n
  induction n using Nat.strongRecOn with
  | _ n ih =>
    by_cases h : 127 < n
    · rw [sh_more n h, vl, ih (n / 128) (by omega), UInt8.toNat_ofNat']
      omega
    · rw [sh_last n h, vl, vl, UInt8.toNat_ofNat']
      omega
/-- Bytes that go on, and one that ends, which is not a nought behind another: the number's own bytes. -/
theorem sh_vl : ∀ (a : List UInt8) (c : UInt8), (∀ x ∈ a, 127 < x.toNat) → c.toNat ≤ 127 → (a = [] ∨ c.toNat ≠ 0) → sh (vl (a ++ [c])) = a ++ [c]
  | [], c, _, hc, _ => by
    have e : vl ([] ++ [c]) = c.toNat := by
      show c.toNat % 128 + 128 * 0 = _
      omega
    rw [e, sh_last _ (by omega)]
    simp
  | x :: xs, c, ha, hc, h0 => by
    have hx := ha x (by simp)
    have hx2 := x.toNat_lt
    have h0' : c.toNat ≠ 0 := by
      rcases h0 with h | h
      · cases h
      · exact h
    have ih := sh_vl xs c (fun y hy => ha y (by simp [hy])) hc (Or.inr h0')
    have hp : 1 ≤ vl (xs ++ [c]) := by
      rw [vl_app]
      have : 1 ≤ 128 ^ xs.length := Nat.pow_pos (by omega)
      have h2 : 1 * 1 ≤ 128 ^ xs.length * (c.toNat % 128) := Nat.mul_le_mul this (by omega)
      omega
    rw [List.cons_append, vl, sh_more _ (by omega), show (x.toNat % 128 + 128 * vl (xs ++ [c])) / 128 = vl (xs ++ [c]) by omega, ih]
    congr 1
    apply UInt8.toNat_inj.1
    rw [UInt8.toNat_ofNat']
    omega
/-- Behind j bytes that go on. -/
theorem lng_end (a : List UInt8) (ha : a.length < 10) : lngA (vl a) a.length [] = (0, 0, 3) := lngA_nil _ _ (by omega)
theorem lng_stop (a rest : List UInt8) (h : a.length = 10) : lngA (vl a) a.length rest = (0, 0, 4) := by rw [h]; exact lngA_ten _ _
theorem lng_on (a rest : List UInt8) (c : UInt8) (h : a.length < 10) (hc : 127 < c.toNat) : lngA (vl a) a.length (c :: rest) = lngA (vl (a ++ [c])) (a ++ [c]).length rest := by
  rw [lngA, if_neg (by omega), if_pos (by omega), vl_app, List.length_append, List.length_singleton]
theorem lng_ok (a rest : List UInt8) (c : UInt8) (h : a.length < 10) (ha : ∀ x ∈ a, 127 < x.toNat) (hc : c.toNat ≤ 127) (he : sh (vl (a ++ [c]) % 18446744073709551616) = a ++ [c]) : lngA (vl a) a.length (c :: rest) = (vl (a ++ [c]) % 18446744073709551616, a.length + 1, 0) := by
  have e1 := vl_sh (vl (a ++ [c]) % 18446744073709551616)
  rw [he] at e1
  have e2 := vl_app a c
  have h1 : ¬ (0 < a.length ∧ c.toNat = 0) := by
    rintro ⟨hp, h0⟩
    rw [h0] at e2
    have hl := vl_lt a
    have e3 : vl (a ++ [c]) = vl a := by rw [e2]; simp
    have hs : (sh (vl (a ++ [c]) % 18446744073709551616)).length = a.length + 1 := by rw [he]; simp
    rw [← e1, e3] at hs
    obtain ⟨k, hk⟩ : ∃ k, a.length = k + 1 := ⟨a.length - 1, by omega⟩
    rw [hk] at hl hs
    have := sh_len k _ hl
    omega
  have h2 : ¬ (a.length = 9 ∧ 1 < c.toNat) := by
    rintro ⟨h9, h1⟩
    rw [h9] at e2
    have h3 : (128 : Nat) ^ 9 = 9223372036854775808 := by rfl
    rw [h3] at e2
    omega
  rw [lngA, if_neg (by omega), if_neg (by omega), if_neg h1, if_neg h2, ← e1, e2, show c.toNat % 128 = c.toNat by omega]
theorem lng_no (a rest : List UInt8) (c : UInt8) (h : a.length < 10) (ha : ∀ x ∈ a, 127 < x.toNat) (hc : c.toNat ≤ 127) (he : sh (vl (a ++ [c]) % 18446744073709551616) ≠ a ++ [c]) : lngA (vl a) a.length (c :: rest) = (0, 0, 4) := by
  rw [lngA, if_neg (by omega), if_neg (by omega)]
  by_cases h1 : 0 < a.length ∧ c.toNat = 0
  · rw [if_pos h1]
  · rw [if_neg h1]
    by_cases h2 : a.length = 9 ∧ 1 < c.toNat
    · rw [if_pos h2]
    · exfalso
      apply he
      have e2 := vl_app a c
      have hl := vl_lt a
      have hv : vl (a ++ [c]) < 18446744073709551616 := by
        have hle : a.length ≤ 9 := by omega
        rcases Nat.lt_or_ge a.length 9 with h8 | h8
        · have hl2 := vl_lt (a ++ [c])
          rw [List.length_append, List.length_singleton] at hl2
          have : (128 : Nat) ^ (a.length + 1) ≤ 128 ^ 9 := Nat.pow_le_pow_right (by omega) (by omega)
          have h3 : (128 : Nat) ^ 9 = 9223372036854775808 := by rfl
          omega
        · have h9 : a.length = 9 := by omega
          rw [h9] at e2 hl
          have h3 : (128 : Nat) ^ 9 = 9223372036854775808 := by rfl
          rw [h3] at e2 hl
          have : c.toNat ≤ 1 := by
            rcases Nat.lt_or_ge 1 c.toNat with hh | hh
            · exact absurd ⟨h9, hh⟩ h2
            · exact hh
          omega
      rw [Nat.mod_eq_of_lt hv]
      refine sh_vl a c ha hc ?_
      by_cases h0 : a = []
      · exact Or.inl h0
      · refine Or.inr (fun hz => h1 ⟨?_, hz⟩)
        cases a with
        | nil => exact absurd rfl h0
        | cons x xs => simp
end Go.Proofs.Ytdojepkmjifoeaa

namespace Go.Proofs.Ytdojepkmjifoeaa
open Go.RowKit

set_option maxRecDepth 1000000 in
set_option maxHeartbeats 1000000 in
theorem rshort_any (n : Nat) (hn : n ≤ 18446744073709551615) (w : World) :
    Calls Try.prog 66 #[.int .u64 n] w fun e w' => e = .returned (.string (str (sh n))) ∧ Below w.heap.size w w' := by
  have HN := Lib.hid hn
  clear hn
  go_enter Try.func66, Try.ntmps66
  go_wp2
  go_loopw [0, 3] (fun nv sv wr => ∃ (m : Nat) (acc : List UInt8), nv = .int .u64 m ∧ sv = .string (str acc) ∧ acc ++ sh m = sh n ∧ m ≤ n ∧ Below w.heap.size w wr) (fun nv _ _ => (intOf nv).toNat)
  case atStart => exact ⟨n, [], rfl, rfl, rfl, Nat.le_refl _, Below.refl _ _⟩
  case round =>
    obtain ⟨m, acc, rfl, rfl, hacc, hmn, hb⟩ := hrel
    have hal : acc.length + 1 ≤ 10 := by
      have h1 := congrArg List.length hacc
      have h2 := sh_pos m
      have h3 := sh_ten n HN.out
      simp at h1; omega
    have hbs := hb.size
    have HA := Lib.hid hacc
    have HM := Lib.hid hmn
    clear hacc hmn
    by_cases hm : 127 < m
    · obtain ⟨r, hr⟩ : ∃ r, r = m % 128 := ⟨_, rfl⟩
      have hr2 : r ≤ 127 := by omega
      have hri : (m : Int) % 128 = (r : Int) := by rw [hr]; simp
      obtain ⟨q, hq⟩ : ∃ q, q = m / 128 := ⟨_, rfl⟩
      have hwq : IntKind.u64.wrap ((m : Int) / 128) = (q : Int) := by
        rw [IntWalk.u64_in _ (by have := HM.out; have := HN.out; omega), hq]; simp
      obtain ⟨x, hx⟩ : ∃ x, x = UInt8.ofNat (r + 128) := ⟨_, rfl⟩
      have hsh : acc ++ [x] ++ sh q = sh n := by
        rw [← HA.out, sh_more m hm, hx, hr, hq]; simp
      have HS := Lib.hid hsh
      have HQ := Lib.hid (show q ≤ n ∧ q < m by have := HM.out; omega)
      have hcv := run_one_byte wr ((r : Int) + 128) (r + 128) (by simp) (by omega)
      rw [← hx] at hcv
      have hadd := run_str_add acc [x] (by simp; omega)
      clear hr hsh hx hq
      go_wp2
      go_roundw
      case rel => exact ⟨q, acc ++ [x], rfl, rfl, HS.out, HQ.out.1, hb.alloc hbs _⟩
      case measure => have := HQ.out.2; simp [intOf]; omega
    · obtain ⟨x, hx⟩ : ∃ x, x = UInt8.ofNat m := ⟨_, rfl⟩
      have hcv := run_one_byte wr (m : Int) m rfl (by omega)
      rw [← hx] at hcv
      have hadd := run_str_add acc [x] (by simp; omega)
      have hsh : acc ++ [x] = sh n := by rw [← HA.out, sh_last m hm, hx]
      have HS := Lib.hid hsh
      clear hsh hx
      go_wp2
      go_ret
      refine ⟨?_, hb.alloc hbs _⟩
      rw [← HS.out]; rfl
end Go.Proofs.Ytdojepkmjifoeaa
