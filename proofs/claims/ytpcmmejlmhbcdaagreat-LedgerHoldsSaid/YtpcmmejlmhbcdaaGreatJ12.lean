/- YtpcmmejlmhbcdaaGreatCI; word.Long of what Short has written.; YtpcmmejlmhbcdaaGreatCE; Values of the codec: trees, and how they lie in memory. -/
import Derived.Test.YtpcmmejlmhbcdaaGreatJ11
import Derived.Test.YtpcmmejlmhbcdaaGreatJ02
set_option linter.unusedVariables false
set_option linter.unusedSimpArgs false
namespace Go.Proofs.YtpcmmejlmhbcdaaGreat.Cd
open Go.RowKit

/-- 'string([]byte{c})' of a slice just laid. -/
theorem run_one_byte (W : World) (c : Int) (n : Nat) (hc : c = (n : Int)) (hn : n < 256) :
    (convert 117 9 (.slice (some ⟨W.heap.size, 0, none⟩) 1 1)).run Tryz.prog (W.alloc (.cells #[.int .u8 c] 5)) = .ok (.string (str [UInt8.ofNat n])) (W.alloc (.cells #[.int .u8 c] 5)) := by
  subst hc
  refine run_convert_bytes_back (P := Tryz.prog) (W.alloc (.cells #[.int .u8 (n : Int)] 5)) 117 9 5 ⟨W.heap.size, 0, none⟩ 1 [UInt8.ofNat n] Tryz.underlying117 Tryz.underlying5 Tryz.underlying9 ?_
  intro j hj
  match j, hj with
  | 0, _ => simp [Addr.add, Nat.mod_eq_of_lt hn]

theorem ofNat_mod (d : Nat) : UInt8.ofNat (d % 256) = UInt8.ofNat d := by
  rw [← UInt8.toNat_inj]; simp
theorem str_append (a b : List UInt8) : str a ++ str b = str (a ++ b) := by
  apply ByteArray.ext
  simp [str]
theorem size_str (a : List UInt8) : (str a).size = a.length := by simp [str, ByteArray.size]
theorem run_str_add (a b : List UInt8) (h : a.length + b.length ≤ 1000000000) (W : World) : (Op.stringOp .add (str a) (str b)).run Tryz.prog W = .ok (.string (str (a ++ b))) W := by
  rw [run_string_add_sum W (str a) (str b) (by rw [size_str, size_str]; omega), str_append]

end Go.Proofs.YtpcmmejlmhbcdaaGreat.Cd

namespace Go.Proofs.YtpcmmejlmhbcdaaGreat.Cd
open Go.RowKit

/-- At 'next', j bytes read. -/
def LongJ (n : Nat) (rest : List UInt8) (s : ByteArray) (w : World) (a' : Act) (w' : World) : Prop :=
  w' = w ∧ ∃ (j m acc : Nat) (u1 u2 u3 u4 u7 u8 u9 u10 u11 u12 u13 u14 u15 u16 u17 u18 u19 u20 u21 u22 u23 u24 u25 u26 u27 u28 u29 u30 u31 u32 u33 u34 u35 u36 u37 u38 u39 u40 u41 u42 : Value),
    a' = { tmps := #[.string s, u1, u2, u3, u4, .int .u64 acc, .int .i64 j, u7, u8, u9, u10, u11, u12, u13, u14, u15, u16, u17, u18, u19, u20, u21, u22, u23, u24, u25, u26, u27, u28, u29, u30, u31, u32, u33, u34, u35, u36, u37, u38, u39, u40, u41, u42], defers := [] } ∧
    1 ≤ j ∧ 1 ≤ m ∧ n = acc + 128 ^ j * m ∧ acc < 128 ^ j ∧ s.data.toList.drop j = sh m ++ rest ∧ j + (sh m).length = (sh n).length

theorem pow7 (j : Nat) : (2 : Nat) ^ (7 * j) = 128 ^ j := by rw [Nat.pow_mul]
/-- What one byte of a number by sevens does. -/
theorem long_step (n j m acc r : Nat) (hn : n ≤ 18446744073709551615) (hnm : n = acc + 128 ^ j * m) (hacc : acc < 128 ^ j) (hr : r = m % 128) :
    IntKind.u64.wrap ((r : Int) * 2 ^ (7 * j)) = ((128 ^ j * r : Nat) : Int) ∧ bits BinOp.or IntKind.u64 (acc : Int) ((128 ^ j * r : Nat) : Int) = ((acc + 128 ^ j * r : Nat) : Int) := by
  have h1 : 128 ^ j * r ≤ 128 ^ j * m := Nat.mul_le_mul_left _ (by omega)
  have e : ((r : Int) * 2 ^ (7 * j)) = ((128 ^ j * r : Nat) : Int) := by
    have h2 : (2 : Int) ^ (7 * j) = ((2 ^ (7 * j) : Nat) : Int) := by simp
    rw [h2, pow7, Nat.mul_comm]; simp
  rw [e]
  generalize hx : 128 ^ j * r = x at *
  refine ⟨IntWalk.u64_in _ (by omega), ?_⟩
  rw [u64_or_nat acc x (by omega) (by omega), Nat.or_comm, nat_join (7 * j) x acc (by rw [pow7, ← hx]; exact Nat.mul_mod_right _ _) (by rw [pow7]; exact hacc)]
  congr 1; omega
theorem mask_byte (c : Nat) (h : c < 256) : bits BinOp.and IntKind.u8 (c : Int) 127 = ((c % 128 : Nat) : Int) := by
  have := u8_and_nat c 127 (by omega) (by omega)
  rw [nat_mask7] at this
  exact this

set_option maxRecDepth 1000000 in
set_option maxHeartbeats 1000000 in
theorem long_ok (n : Nat) (rest : List UInt8) (s : ByteArray) (hn : n ≤ 18446744073709551615) (hs : s.data.toList = sh n ++ rest) (hmax : s.size ≤ 1000000000) (w : World) :
    Calls Tryz.prog 89 #[.string s] w fun e w' => e = .returned (.tuple #[.int .u64 n, .int .i64 ((sh n).length : Nat), .int .i64 0]) ∧ w = w' := by
  have HN := Lib.hid hn
  have HS := Lib.hid hs
  have hl : s.data.toList.length = s.size := by simp
  have h0 : 0 < s.size := by rw [← hl, hs]; have := sh_pos n; simp; omega
  have hz : ((s.size : Int) == 0) = false := by rw [beq_eq_false_iff_ne]; omega
  have hz2 : ((0 : Int) == (s.size : Int)) = false := by rw [beq_eq_false_iff_ne]; omega
  clear hn hs hl
  go_enter Tryz.func89, Tryz.ntmps89
  go_wp2
  refine wp_scope_jumps 0 (LongJ n rest s w) (fun a' _ => 20 - (intOf (a'.tmps.getD 6 undef)).toNat) rfl ?_ ?_
  · obtain ⟨r, hr⟩ : ∃ r, r = n % 128 := ⟨_, rfl⟩
    have f2 : IntKind.u64.wrap (r : Int) = (r : Int) := IntWalk.u64_in _ (by omega)
    have f5 : bits BinOp.or IntKind.u64 0 (r : Int) = (r : Int) := by
      have := u64_or_nat 0 r (by omega) (by omega)
      rw [Nat.zero_or] at this
      exact this
    have h2 : s.data.toList[0]? = some s[0] := by
      rw [List.getElem?_eq_getElem (by simpa using h0)]; rfl
    by_cases hm : 127 < n
    · have hcm : s[0].toNat = r + 128 := by
        rw [HS.out, sh_more n hm] at h2
        simp only [List.cons_append, List.getElem?_cons_zero] at h2
        injection h2 with h2
        rw [← h2, UInt8.toNat_ofNat', hr]; omega
      have f1 : bits BinOp.and IntKind.u8 (s[0].toNat : Int) 127 = (r : Int) := by
        rw [mask_byte _ s[0].toNat_lt, hcm]; congr 1; omega
      have g1 : (128 : Int) ≤ (s[0].toNat : Int) := by rw [hcm]; omega
      have hd2 : s.data.toList.drop 1 = sh (n / 128) ++ rest := by
        rw [HS.out, sh_more n hm]; simp
      have hn2 : n = r + 128 ^ 1 * (n / 128) := by rw [Nat.pow_one]; omega
      have hl2 : 1 + (sh (n / 128)).length = (sh n).length := by
        conv => rhs; rw [sh_more n hm]
        simp; omega
      have hm2 : 1 ≤ n / 128 := by omega
      have hlt : r < 128 ^ 1 := by rw [Nat.pow_one]; omega
      generalize n / 128 = m2 at *
      have HD2 := Lib.hid hd2
      have HN2 := Lib.hid hn2
      have HL2 := Lib.hid hl2
      have HLT := Lib.hid hlt
      clear hd2 hn2 hl2 hlt hcm hr h2
      go_wp2
      go_step3
      go_wp2
      go_step3
      exact ⟨rfl, rfl, 1, m2, r, _, _, _, _, _, _, _, _, _, _, _, _, _, _, _, _, _, _, _, _, _, _, _, _, _, _, _, _, _, _, _, _, _, _, _, _, _, _, _, _, rfl, Nat.le_refl _, hm2, HN2.out, HLT.out, HD2.out, HL2.out⟩
    · have hcm : s[0].toNat = n := by
        rw [HS.out, sh_last n hm] at h2
        simp only [List.cons_append, List.getElem?_cons_zero] at h2
        injection h2 with h2
        rw [← h2, UInt8.toNat_ofNat']; omega
      have hrn : r = n := by omega
      rw [hrn] at f2 f5
      have f1 : bits BinOp.and IntKind.u8 (s[0].toNat : Int) 127 = (n : Int) := by
        rw [mask_byte _ s[0].toNat_lt, hcm]; congr 1; omega
      have g1 : ¬ (128 : Int) ≤ (s[0].toNat : Int) := by rw [hcm]; omega
      have hl2 : (sh n).length = 1 := by rw [sh_last n hm]; rfl
      have HL2 := Lib.hid hl2
      clear hl2 hcm hr hrn h2
      go_wp2
      go_step3
      go_wp2
      simp only [Exit.jump]
      refine bodyPost_ret (v := .tuple #[.int .u64 n, .int .i64 1, .int .i64 0]) (by simp [results, Tryz.results89, go_sem]) rfl ⟨?_, rfl⟩
      rw [HL2.out]
      rfl
  · rintro a' w' ⟨rfl, j, m, acc, u1, u2, u3, u4, u7, u8, u9, u10, u11, u12, u13, u14, u15, u16, u17, u18, u19, u20, u21, u22, u23, u24, u25, u26, u27, u28, u29, u30, u31, u32, u33, u34, u35, u36, u37, u38, u39, u40, u41, u42, rfl, hj1, hm1, hnm, hacc, hd, hlen⟩
    have hj9 : j ≤ 9 := by
      have h1 := sh_ten n HN.out
      have h2 := sh_pos m
      omega
    have hj10 : ((j : Int) == 10) = false := by rw [beq_eq_false_iff_ne]; omega
    have hl : s.data.toList.length = s.size := by simp
    have hjs : j < s.size := by
      have h1 := congrArg List.length hd
      have h2 := sh_pos m
      simp at h1; omega
    have hjs2 : ((j : Int) == (s.size : Int)) = false := by rw [beq_eq_false_iff_ne]; omega
    have ij : (j : Int) < (s.size : Int) := by omega
    have ij9 : (j : Int) ≤ 9 := by omega
    have HD := Lib.hid hd
    have HA := Lib.hid hacc
    have HNM := Lib.hid hnm
    have HLEN := Lib.hid hlen
    clear hd hacc hnm hlen hz hz2 h0 hl
    obtain ⟨r, hr⟩ : ∃ r, r = m % 128 := ⟨_, rfl⟩
    obtain ⟨q3, q4⟩ := long_step n j m acc r HN.out HNM.out HA.out hr
    have f2 : IntKind.u64.wrap (r : Int) = (r : Int) := IntWalk.u64_in _ (by omega)
    have hlt : acc + 128 ^ j * r < 128 ^ (j + 1) := by
      have h1 : 128 ^ j * r ≤ 128 ^ j * 127 := Nat.mul_le_mul_left _ (by omega)
      have h2 := HA.out
      rw [Nat.pow_succ]; omega
    by_cases hm : 127 < m
    · have hcm : s[j].toNat = r + 128 := by
        have h1 := congrArg (fun l => l[0]?) HD.out
        rw [sh_more m hm] at h1
        simp only [List.getElem?_drop, Nat.add_zero, List.cons_append, List.getElem?_cons_zero] at h1
        have h2 : s.data.toList[j]? = some s[j] := by
          rw [List.getElem?_eq_getElem (by simpa using hjs)]; rfl
        rw [h2] at h1
        injection h1 with h1
        rw [h1, UInt8.toNat_ofNat', hr]; omega
      have f1 : bits BinOp.and IntKind.u8 (s[j].toNat : Int) 127 = (r : Int) := by
        rw [mask_byte _ s[j].toNat_lt, hcm]; congr 1; omega
      have g1 : (128 : Int) ≤ (s[j].toNat : Int) := by rw [hcm]; omega
      have hd2 : s.data.toList.drop (j + 1) = sh (m / 128) ++ rest := by
        have h1 := congrArg (List.drop 1) HD.out
        rw [List.drop_drop, sh_more m hm] at h1
        simpa using h1
      have hn2 : n = (acc + 128 ^ j * r) + 128 ^ (j + 1) * (m / 128) := by
        have h1 := HNM.out
        have h2 : m = 128 * (m / 128) + r := by omega
        rw [Nat.pow_succ, Nat.mul_assoc, Nat.add_assoc, ← Nat.mul_add, Nat.add_comm r, ← h2]
        exact h1
      have hl2 : j + 1 + (sh (m / 128)).length = (sh n).length := by
        have h1 := HLEN.out
        rw [sh_more m hm] at h1
        simp at h1; omega
      have hm2 : 1 ≤ m / 128 := by omega
      generalize 128 ^ j * r = x at *
      generalize m / 128 = m2 at *
      generalize acc + x = acc2 at *
      have HD2 := Lib.hid hd2
      have HN2 := Lib.hid hn2
      have HL2 := Lib.hid hl2
      have HLT := Lib.hid hlt
      clear hd2 hn2 hl2 hlt hcm hr
      go_wp2
      go_step3
      refine ⟨rfl, ⟨rfl, j + 1, m2, acc2, _, _, _, _, _, _, _, _, _, _, _, _, _, _, _, _, _, _, _, _, _, _, _, _, _, _, _, _, _, _, _, _, _, _, _, _, _, _, _, _, rfl, by omega, hm2, HN2.out, HLT.out, HD2.out, HL2.out⟩, ?_⟩
      simp [intOf]; omega
    · have hcm : s[j].toNat = m := by
        have h1 := congrArg (fun l => l[0]?) HD.out
        rw [sh_last m hm] at h1
        simp only [List.getElem?_drop, Nat.add_zero, List.cons_append, List.getElem?_cons_zero] at h1
        have h2 : s.data.toList[j]? = some s[j] := by
          rw [List.getElem?_eq_getElem (by simpa using hjs)]; rfl
        rw [h2] at h1
        injection h1 with h1
        rw [h1, UInt8.toNat_ofNat']; omega
      have f1 : bits BinOp.and IntKind.u8 (s[j].toNat : Int) 127 = (r : Int) := by
        rw [mask_byte _ s[j].toNat_lt, hcm]; congr 1; omega
      have g1 : ¬ (128 : Int) ≤ (s[j].toNat : Int) := by rw [hcm]; omega
      have g2 : ((s[j].toNat : Int) == 0) = false := by rw [hcm, beq_eq_false_iff_ne]; omega
      have hn2 : acc + 128 ^ j * r = n := by
        rw [HNM.out, hr, Nat.mod_eq_of_lt (by omega)]
      have hl2 : (sh n).length = j + 1 := by
        have h1 := HLEN.out
        rw [sh_last m hm] at h1
        simp at h1; omega
      have hg3 : j = 9 → m ≤ 1 := by
        intro h
        have h1 := HNM.out
        have h2 := HN.out
        rw [h] at h1
        have h3 : (128 : Nat) ^ 9 = 9223372036854775808 := by rfl
        rw [h3] at h1; omega
      rw [hn2] at q4
      generalize 128 ^ j * r = x at *
      have HL2 := Lib.hid hl2
      clear hn2 hlt hr
      by_cases h9 : j = 9
      · have g3 : ¬ (1 : Int) < (s[j].toNat : Int) := by rw [hcm]; have := hg3 h9; omega
        have hj1 : ((j : Int) + 1 == 10) = true := by rw [beq_iff_eq]; omega
        have H9 := Lib.hid h9
        clear hg3 hcm h9 hl2
        go_wp2
        simp only [Exit.jump]
        refine bodyPost_ret (v := .tuple #[.int .u64 n, .int .i64 ((j : Int) + 1), .int .i64 0]) (by simp [results, Tryz.results89, go_sem]) rfl ⟨?_, rfl⟩
        rw [HL2.out]
        rfl
      · have hj1 : ((j : Int) + 1 == 10) = false := by rw [beq_eq_false_iff_ne]; omega
        clear hg3 hcm h9 hl2
        go_wp2
        simp only [Exit.jump]
        refine bodyPost_ret (v := .tuple #[.int .u64 n, .int .i64 ((j : Int) + 1), .int .i64 0]) (by simp [results, Tryz.results89, go_sem]) rfl ⟨?_, rfl⟩
        rw [HL2.out]
        rfl
end Go.Proofs.YtpcmmejlmhbcdaaGreat.Cd

namespace Go.Proofs.YtpcmmejlmhbcdaaGreat.Cd
open Go.RowKit

theorem toList_str (l : List UInt8) : (str l).toList = l := ByteArray.toList_mk l

theorem awake_any (w : World) : Calls Tryz.prog 107 #[] w fun e w' => e = .returned (.bool true) ∧ Below w.heap.size w w' := by
  have h1 : (str (sh 300)).toList = [172, 2] := by
    rw [toList_str, sh_more 300 (by omega), sh_last _ (by omega)]
    rfl
  have h2 : ((str (be 258 (clip 2))).toList == [1, 2]) = true := by
    rw [toList_str]
    rfl
  go_enter Tryz.func107, Tryz.ntmps107
  go_wp2_with (first
    | (go_at_call 94; go_must (refine (short_any 300 (by omega) _).mono ?_); rintro e w1 ⟨rfl, hb1⟩)
    | (go_at_call 93; go_must (refine (put_any 258 2 (by omega) _).mono ?_); rintro e w2 ⟨rfl, hb2⟩))
  go_ret
  exact ⟨rfl, hb1.trans (hb2.mono hb1.size)⟩

theorem awake1_any (w : World) : Calls Tryz.prog 82 #[] w fun e w' => e = .returned (.bool true) ∧ Below w.heap.size w w' := by
  go_enter Tryz.func82, Tryz.ntmps82
  go_wp2_with (first
    | (go_at_call 107; go_must (refine (awake_any _).mono ?_); rintro e w1 ⟨rfl, hb1⟩))
  go_ret
  exact ⟨rfl, hb1⟩
end Go.Proofs.YtpcmmejlmhbcdaaGreat.Cd

namespace Go.Proofs.YtpcmmejlmhbcdaaGreat.Cd
open Go.RowKit

theorem cell_new (w : World) (cs : Array Value) (t : TypeId) (j : Nat) : (w.alloc (.cells cs t)).cell? ⟨w.heap.size, j, none⟩ = cs[j]? := World.cell?_alloc_new w cs t j
theorem empty_no (s : ByteArray) (h : 1 ≤ s.size) : s.toList.isEmpty = false := by
  rw [ByteArray.toList_eq]
  have e : s.data.toList.length = s.size := by simp
  cases hl : s.data.toList with
  | nil => rw [hl] at e; simp at e; omega
  | cons c l => rfl

/-- A value: its kind, its number, its text, the values within. -/
inductive Tr : Type where
  | mk (k : Int) (n : Nat) (s : ByteArray) (l : List Tr) : Tr
theorem Tr.ind {P : Tr → Prop} (h : ∀ k n s l, (∀ x ∈ l, P x) → P (.mk k n s l)) : ∀ t, P t
  | .mk k n s l => h k n s l (fun x _ => Tr.ind h x)
termination_by t => SizeOf.sizeOf t
decreasing_by
  have := List.sizeOf_lt_of_mem ‹x ∈ l›
  simp; omega

mutual
/-- A value as it lies in memory: its four cells. -/
def VIn (w : World) : Tr → Value → Value → Value → Value → Prop
  | .mk k n s l, c0, c1, c2, c3 => c0 = .int .i64 k ∧ c1 = .int .u64 (n : Int) ∧ n ≤ 18446744073709551615 ∧ c2 = .string s ∧ (s.size ≤ 1000000000 ∧ l.length ≤ 1000000) ∧ ∃ (o : Option Addr) (cap b off : Nat), c3 = .slice o l.length cap ∧ (0 < l.length → o = some ⟨b, off, none⟩ ∧ b < w.heap.size) ∧ VInL w b off l
def VInL (w : World) (b : Nat) : Nat → List Tr → Prop
  | _, [] => True
  | off, t :: ts => (∃ c0 c1 c2 c3, w.cell? ⟨b, off, none⟩ = some c0 ∧ w.cell? ⟨b, off + 1, none⟩ = some c1 ∧ w.cell? ⟨b, off + 2, none⟩ = some c2 ∧ w.cell? ⟨b, off + 3, none⟩ = some c3 ∧ VIn w t c0 c1 c2 c3) ∧ VInL w b (off + 4) ts
end
theorem VInL.at {w : World} {b : Nat} : ∀ {off : Nat} {l : List Tr} (i : Nat) (h : i < l.length), VInL w b off l → ∃ c0 c1 c2 c3, w.cell? ⟨b, off + i * 4, none⟩ = some c0 ∧ w.cell? ⟨b, off + i * 4 + 1, none⟩ = some c1 ∧ w.cell? ⟨b, off + i * 4 + 2, none⟩ = some c2 ∧ w.cell? ⟨b, off + i * 4 + 3, none⟩ = some c3 ∧ VIn w l[i] c0 c1 c2 c3
  | off, t :: ts, 0, _, h => by
    unfold VInL at h
    simpa using h.1
  | off, t :: ts, i + 1, hi, h => by
    unfold VInL at h
    have := VInL.at i (by simpa using hi) h.2
    rw [show off + (i + 1) * 4 = off + 4 + i * 4 by omega]
    simpa using this
theorem VInL.of {w : World} {b : Nat} : ∀ {off : Nat} {l : List Tr}, (∀ (i : Nat) (h : i < l.length), ∃ c0 c1 c2 c3, w.cell? ⟨b, off + i * 4, none⟩ = some c0 ∧ w.cell? ⟨b, off + i * 4 + 1, none⟩ = some c1 ∧ w.cell? ⟨b, off + i * 4 + 2, none⟩ = some c2 ∧ w.cell? ⟨b, off + i * 4 + 3, none⟩ = some c3 ∧ VIn w l[i] c0 c1 c2 c3) → VInL w b off l
  | off, [], _ => by unfold VInL; trivial
  | off, t :: ts, h => by
    unfold VInL
    have h0 := h 0 (by simp)
    rw [Nat.zero_mul, Nat.add_zero] at h0
    refine ⟨h0, VInL.of (fun i hi => ?_)⟩
    have := h (i + 1) (by simpa using hi)
    rw [show off + (i + 1) * 4 = off + 4 + i * 4 by omega] at this
    simpa using this
theorem VIn.cells {w : World} : ∀ {t : Tr} {c0 c1 c2 c3 : Value}, VIn w t c0 c1 c2 c3 → ∃ (k : Int) (n : Nat) (s : ByteArray) (o : Option Addr) (len cap : Nat), c0 = .int .i64 k ∧ c1 = .int .u64 (n : Int) ∧ c2 = .string s ∧ c3 = .slice o len cap
  | .mk k n s l, _, _, _, _, h => by
    unfold VIn at h
    obtain ⟨h0, h1, _, h2, _, o, cap, _, _, h3, _⟩ := h
    exact ⟨k, n, s, o, l.length, cap, h0, h1, h2, h3⟩
/-- What lies there goes on lying there. -/
theorem VIn.later {w w' : World} (hb : Below w.heap.size w w') : ∀ (t : Tr) {c0 c1 c2 c3 : Value}, VIn w t c0 c1 c2 c3 → VIn w' t c0 c1 c2 c3 := by
  refine Tr.ind ?_
  intro k n s l ih c0 c1 c2 c3 h
  unfold VIn at h ⊢
  obtain ⟨h0, h1, hn, h2, hz, o, cap, b, off, h3, ho, hl⟩ := h
  refine ⟨h0, h1, hn, h2, hz, o, cap, b, off, h3, fun hp => ⟨(ho hp).1, Nat.lt_of_lt_of_le (ho hp).2 hb.size⟩, VInL.of (fun i hi => ?_)⟩
  obtain ⟨d0, d1, d2, d3, e0, e1, e2, e3, hv⟩ := hl.at i hi
  have hbl := (ho (by omega)).2
  exact ⟨d0, d1, d2, d3, (hb.cell (p := ⟨b, _, none⟩) hbl).trans e0, (hb.cell (p := ⟨b, _, none⟩) hbl).trans e1, (hb.cell (p := ⟨b, _, none⟩) hbl).trans e2, (hb.cell (p := ⟨b, _, none⟩) hbl).trans e3, ih _ (List.getElem_mem hi) hv⟩

mutual
def sndT : Tr → Bool
  | .mk k n s l => decide (1 ≤ k ∧ k ≤ 3) && (decide (k = 1) || decide (n = 0)) && (decide (k = 2) || decide (s.size = 0)) && (decide (k = 3) || decide (l.length = 0)) && sndL l
def sndL : List Tr → Bool
  | [] => true
  | t :: ts => sndT t && sndL ts
end
theorem sndL_all : ∀ l : List Tr, sndL l = l.all sndT
  | [] => by unfold sndL; rfl
  | t :: ts => by unfold sndL; rw [List.all_cons, sndL_all ts]
mutual
def deepT : Tr → Nat
  | .mk k _ _ l => if k = 3 then deepL l + 1 else 0
def deepL : List Tr → Nat
  | [] => 0
  | t :: ts => max (deepT t) (deepL ts)
end
theorem empty_yes (s : ByteArray) (h : s.size = 0) : s.toList.isEmpty = true := by
  rw [ByteArray.toList_eq]
  have e : s.data.toList.length = s.size := by simp
  rw [List.eq_nil_of_length_eq_zero (by omega : s.data.toList.length = 0)]
  rfl

theorem alloc_below (w : World) (o : Obj) : Below w.heap.size w (w.alloc o) := (Below.refl _ _).alloc (Nat.le_refl _) _
theorem alloc_lt (w : World) (o : Obj) : w.heap.size < (w.alloc o).heap.size := by simp
theorem run_add_bytes (a b : List UInt8) (h : a.length + b.length ≤ 1000000000) (W : World) : (Op.stringOp .add (str a) (str b)).run Tryz.prog W = .ok (.string (str (a ++ b))) W := run_str_add a b h W
theorem str_data (p : ByteArray) : str p.data.toList = p := by
  apply ByteArray.ext; simp [str]
theorem clone_any (p : ByteArray) (w : World) (hp : p.size ≤ 1000000000) : Calls Tryz.prog 92 #[.string p] w fun e w' => e = .returned (.string p) ∧ Below w.heap.size w w' := Dk.sclone_any p w hp
theorem be_one (k : Nat) : be k 1 = [UInt8.ofNat k] := by simp [be]

end Go.Proofs.YtpcmmejlmhbcdaaGreat.Cd
