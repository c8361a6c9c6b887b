/- What a text tells of a frame at its beginning: plain facts, no program. -/
import Derived.Test.YtlochpnifjmefaaFA
import Derived.Lib.Strings
namespace Go.Proofs.Ytlochpnifjmefaa
open Go.RowKit

theorem ofNat_eq (a b : Nat) (h : a % 256 = b % 256) : UInt8.ofNat a = UInt8.ofNat b := by
  rw [← UInt8.toNat_inj]; simpa using h
theorem be_add (k : Nat) : ∀ a b : Nat, be (a * 256 ^ k + b) k = be b k := by
  induction k with
  | zero => intro a b; rfl
  | succ k ih =>
    intro a b
    have e : a * 256 ^ (k + 1) + b = (a * 256) * 256 ^ k + b := by rw [Nat.pow_succ, Nat.mul_assoc, Nat.mul_comm 256]
    show UInt8.ofNat ((a * 256 ^ (k + 1) + b) / 256 ^ k) :: be (a * 256 ^ (k + 1) + b) k = UInt8.ofNat (b / 256 ^ k) :: be b k
    rw [e, ih (a * 256) b, Nat.add_comm, Nat.add_mul_div_right _ _ (Nat.pow_pos (by omega)), ofNat_eq (b / 256 ^ k + a * 256) (b / 256 ^ k) (by omega)]
theorem be_gt (l : List UInt8) : be (gt l) l.length = l := by
  induction l with
  | nil => rfl
  | cons c l ih =>
    have h := gt_lt l
    show UInt8.ofNat (gt (c :: l) / 256 ^ l.length) :: be (gt (c :: l)) l.length = c :: l
    rw [gt_cons, be_add, ih, Nat.add_comm, Nat.add_mul_div_right _ _ (Nat.pow_pos (by omega)), Nat.div_eq_of_lt h, Nat.zero_add]
    simp
theorem gt_be (k : Nat) : ∀ n, n < 256 ^ k → gt (be n k) = n := by
  induction k with
  | zero => intro n h; simp at h; subst h; rfl
  | succ k ih =>
    intro n h
    have hp : 0 < 256 ^ k := Nat.pow_pos (by omega)
    have h1 : n / 256 ^ k < 256 := by rw [Nat.div_lt_iff_lt_mul hp]; rw [Nat.pow_succ, Nat.mul_comm] at h; exact h
    show gt (UInt8.ofNat (n / 256 ^ k) :: be n k) = n
    rw [gt_cons, be_length]
    have e : be n k = be (n % 256 ^ k) k := by
      conv => lhs; rw [← Nat.div_add_mod n (256 ^ k), Nat.mul_comm]
      exact be_add k _ _
    rw [e, ih _ (Nat.mod_lt _ hp), UInt8.toNat_ofNat', Nat.mod_eq_of_lt h1, Nat.mul_comm]
    exact Nat.div_add_mod n (256 ^ k)
theorem be_one (k : Nat) : be k 1 = [UInt8.ofNat k] := by simp [be]

/-- What the bytes 12 to 15 tell, those from 4 on, the byte at 3; what would be the body, the rest. -/
def lenN (s : ByteArray) : Nat := gt (s.extract 12 16).data.toList
def epS (s : ByteArray) : Nat := gt (s.extract 4 12).data.toList
def kindS (s : ByteArray) : Nat := (s.data.toList.getD 3 0).toNat
def bodyS (s : ByteArray) : ByteArray := s.extract 16 (lenN s + 16)
def restS (s : ByteArray) : ByteArray := s.extract (lenN s + 20) s.size
def preS (s : ByteArray) : Bool := Lib.hasPrefix s.data.toList [79, 70, 1]

theorem ext_list (s : ByteArray) (a b : Nat) : (s.extract a b).data.toList = (s.data.toList.drop a).take (b - a) := by
  simp [ByteArray.data_extract, List.extract_eq_take_drop]
theorem lenN_lt (s : ByteArray) : lenN s < 4294967296 := by
  have h := gt_lt (s.extract 12 16).data.toList
  have h2 : (s.extract 12 16).data.toList.length ≤ 4 := by rw [ext_list]; simp; omega
  exact Nat.lt_of_lt_of_le h (Nat.le_trans (Nat.pow_le_pow_right (by omega) h2) (by omega))
theorem epS_lt (s : ByteArray) : epS s ≤ 18446744073709551615 := by
  have h := gt_lt (s.extract 4 12).data.toList
  have h2 : (s.extract 4 12).data.toList.length ≤ 8 := by rw [ext_list]; simp; omega
  have h3 : epS s < 256 ^ 8 := Nat.lt_of_lt_of_le h (Nat.pow_le_pow_right (by omega) h2)
  have : (256 : Nat) ^ 8 = 18446744073709551616 := by rfl
  omega
theorem kindS_lt (s : ByteArray) : kindS s < 256 := (s.data.toList.getD 3 0).toNat_lt

theorem pre_iff (l : List UInt8) : Lib.hasPrefix l [79, 70, 1] = true ↔ l.take 3 = [79, 70, 1] := by
  unfold Lib.hasPrefix
  rw [List.isPrefixOf_iff_prefix, List.prefix_iff_eq_take]
  exact eq_comm
theorem pre_take (l : List UInt8) (h : Lib.hasPrefix l [79, 70, 1] = true) : l.take 3 = [79, 70, 1] := (pre_iff l).1 h
theorem head_eq (s : ByteArray) (h : 16 ≤ s.size) (hp : preS s = true) : s.data.toList.take 16 = hdr (kindS s) (epS s) (lenN s) := by
  have h1 := pre_take _ hp
  unfold hdr kindS epS lenN
  have hl : s.data.toList.length = s.size := by simp
  have e8 : (s.extract 4 12).data.toList.length = 8 := by rw [ext_list]; simp; omega
  have e4 : (s.extract 12 16).data.toList.length = 4 := by rw [ext_list]; simp; omega
  have b8 := be_gt (s.extract 4 12).data.toList
  have b4 := be_gt (s.extract 12 16).data.toList
  rw [e8] at b8
  rw [e4] at b4
  rw [b8, b4, be_one, UInt8.ofNat_toNat, ← h1, ext_list, ext_list]
  rw [← hl] at h
  generalize s.data.toList = l at *
  have s1 : l.take 16 = (l.take 12) ++ (l.drop 12).take 4 := by rw [← List.take_add]
  have s2 : l.take 12 = (l.take 4) ++ (l.drop 4).take 8 := by rw [← List.take_add]
  have s3 : l.take 4 = l.take 3 ++ [l.getD 3 0] := by
    rw [List.take_succ_eq_append_getElem (by omega)]
    simp [List.getD, List.getElem?_eq_getElem (show 3 < l.length by omega)]
  rw [s1, s2, s3]

/-- Do the first bytes stand as the frame that they tell? -/
def okS (s : ByteArray) : Prop := s.data.toList.take (lenN s + 20) = frameL (kindS s) (epS s) (bodyS s).data.toList
instance (s : ByteArray) : Decidable (okS s) := by unfold okS; infer_instance

theorem body_length (s : ByteArray) (h : lenN s + 20 ≤ s.size) : (bodyS s).data.toList.length = lenN s := by
  have hl : s.data.toList.length = s.size := by simp
  unfold bodyS; rw [ext_list]; simp; omega
theorem whole_eq (s : ByteArray) (h : lenN s + 20 ≤ s.size) (hp : preS s = true) : s.data.toList.take (lenN s + 16) = hdr (kindS s) (epS s) (lenN s) ++ (bodyS s).data.toList := by
  rw [← head_eq s (by omega) hp]
  unfold bodyS
  rw [ext_list, Nat.add_comm (lenN s) 16, List.take_add]
  congr 2
  omega
theorem ok_iff (s : ByteArray) (h : lenN s + 20 ≤ s.size) (hp : preS s = true) :
    okS s ↔ ((s.extract 0 (lenN s + 20)).extract (lenN s + 16) (s.extract 0 (lenN s + 20)).size).toList = le4 (crcV ((s.extract 0 (lenN s + 20)).extract 0 (lenN s + 16)).data.toList) := by
  have hl : s.data.toList.length = s.size := by simp
  have hsz : (s.extract 0 (lenN s + 20)).size = lenN s + 16 + 4 := by rw [ByteArray.size_extract]; omega
  rw [← mark_iff (s.extract 0 (lenN s + 20)) (lenN s + 16) hsz]
  have e1 : (s.extract 0 (lenN s + 20)).data.toList = s.data.toList.take (lenN s + 20) := by rw [ext_list]; simp
  have e2 : ((s.extract 0 (lenN s + 20)).extract 0 (lenN s + 16)).data.toList = s.data.toList.take (lenN s + 16) := by
    rw [ext_list, e1]; simp [List.take_take]
  rw [e1, e2, whole_eq s h hp]
  unfold okS frameL
  rw [body_length s h]
  exact eq_comm
theorem text_body (s : ByteArray) (h : lenN s + 20 ≤ s.size) :
    ((s.extract 0 (lenN s + 20)).extract 0 (lenN s + 16)).extract 16 ((s.extract 0 (lenN s + 20)).extract 0 (lenN s + 16)).size = bodyS s := by
  have hl : s.data.toList.length = s.size := by simp
  apply ByteArray.ext
  apply Array.ext'
  unfold bodyS
  have hsz : ((s.extract 0 (lenN s + 20)).extract 0 (lenN s + 16)).size = lenN s + 16 := by rw [ByteArray.size_extract, ByteArray.size_extract]; omega
  rw [hsz, ext_list, ext_list, ext_list, ext_list]
  simp [List.take_take, List.drop_take]

/-- The error. -/
def codeS (s : ByteArray) : Nat := if s.size < 20 then 3 else if preS s = false then 4 else if kindS s = 0 then 10 else if 8192 < lenN s then 5 else if s.size < lenN s + 20 then 3 else if okS s then 0 else 9
/-- What is read. -/
def rK (s : ByteArray) : Nat := if codeS s = 0 then kindS s else 0
def rE (s : ByteArray) : Nat := if codeS s = 0 then epS s else 0
def rB (s : ByteArray) : ByteArray := if codeS s = 0 then bodyS s else ⟨#[]⟩
def rR (s : ByteArray) : ByteArray := if codeS s = 0 then restS s else ⟨#[]⟩
/-- How many bytes. -/
def rN (s : ByteArray) : Nat := if codeS s = 0 then lenN s + 20 else 0
theorem code_ok {s : ByteArray} (h : codeS s = 0) : 20 ≤ s.size ∧ preS s = true ∧ 1 ≤ kindS s ∧ kindS s ≤ 255 ∧ lenN s ≤ 8192 ∧ lenN s + 20 ≤ s.size ∧ okS s := by
  have hk := kindS_lt s
  unfold codeS at h
  split at h
  · omega
  split at h
  · omega
  split at h
  · omega
  split at h
  · omega
  split at h
  · omega
  split at h
  · rename_i h1 h2 h3 h4 h5 h6
    exact ⟨by omega, by simpa using h2, by omega, by omega, by omega, by omega, h6⟩
  · omega
theorem r_bad {s : ByteArray} (h : codeS s ≠ 0) : rK s = 0 ∧ rE s = 0 ∧ rB s = ⟨#[]⟩ ∧ rR s = ⟨#[]⟩ ∧ rN s = 0 := by
  unfold rK rE rB rR rN
  rw [if_neg h, if_neg h, if_neg h, if_neg h, if_neg h]
  exact ⟨rfl, rfl, rfl, rfl, rfl⟩
theorem r_ok {s : ByteArray} (h : codeS s = 0) : rK s = kindS s ∧ rE s = epS s ∧ rB s = bodyS s ∧ rR s = restS s ∧ rN s = lenN s + 20 := by
  unfold rK rE rB rR rN
  rw [if_pos h, if_pos h, if_pos h, if_pos h, if_pos h]
  exact ⟨rfl, rfl, rfl, rfl, rfl⟩
end Go.Proofs.Ytlochpnifjmefaa
