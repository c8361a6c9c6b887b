/- What of stage 1's texts serves frames too: marks that are one, bits turned, kinds of numbers. -/
import Derived.Test.YtlochpnifjmefaaR
import Derived.Test.YtlochpnifjmefaaT
import Derived.Test.YtlochpnifjmefaaX
namespace Go.Proofs.Ytlochpnifjmefaa
open Go.RowKit
/-- A text of four bytes or more is its head and its last four. -/
theorem mark_iff (t : ByteArray) (n : Nat) (_hn : t.size = n + 4) : markL (t.extract 0 n).data.toList = t.data.toList ↔ (t.extract n t.size).toList = le4 (crcV (t.extract 0 n).data.toList) := by
  have h1 : (t.extract 0 n).data.toList = t.data.toList.take n := by simp
  have h2 : (t.extract n t.size).toList = t.data.toList.drop n := by
    rw [Lib.extract_toList, List.take_of_length_le]
    simp
  have h3 : t.data.toList = t.data.toList.take n ++ t.data.toList.drop n := (List.take_append_drop n t.data.toList).symm
  rw [h2, h1]
  unfold markL
  generalize le4 (crcV (t.data.toList.take n)) = L
  constructor
  · intro h
    rw [h3] at h
    simp only [List.take_append_drop] at h
    have h' : t.data.toList.take n ++ L = t.data.toList.take n ++ t.data.toList.drop n := by rw [List.take_append_drop]; exact h
    exact (List.append_cancel_left h').symm
  · intro h
    rw [← h, List.take_append_drop]

theorem wf16 {a : Int} (h : (Lit.int .u16 a).wf = true) : 0 ≤ a ∧ a < 65536 := by
  simp [Lit.wf, IntKind.min, IntKind.max, IntKind.signed, IntKind.bits] at h
  omega
theorem size_zero {s : ByteArray} (h : s.size = 0) : s = ByteArray.empty := by
  apply ByteArray.ext
  exact Array.eq_empty_of_size_eq_zero h

theorem wf32 {a : Int} (h : (Lit.int .u32 a).wf = true) : 0 ≤ a ∧ a < 4294967296 := by
  simp [Lit.wf, IntKind.min, IntKind.max, IntKind.signed, IntKind.bits] at h
  omega
theorem wf8 {a : Int} (h : (Lit.int .u8 a).wf = true) : 0 ≤ a ∧ a < 256 := by
  simp [Lit.wf, IntKind.min, IntKind.max, IntKind.signed, IntKind.bits] at h
  omega
theorem toList_add (s t : ByteArray) : (s ++ t).data.toList = s.data.toList ++ t.data.toList := by simp
theorem size_add (s t : ByteArray) : (s ++ t).size = s.size + t.size := ByteArray.size_append

theorem empty_no (s : ByteArray) (h : 1 ≤ s.size) : s.toList.isEmpty = false := by
  rw [ByteArray.toList_eq]
  have e : s.data.toList.length = s.size := by simp
  cases hl : s.data.toList with
  | nil => rw [hl] at e; simp at e; omega
  | cons c l => rfl
theorem empty_yes (s : ByteArray) (h : s.size = 0) : s.toList.isEmpty = true := by
  rw [ByteArray.toList_eq]
  have e : s.data.toList.length = s.size := by simp
  rw [List.eq_nil_of_length_eq_zero (by omega : s.data.toList.length = 0)]
  rfl

theorem bit_at (y j : Nat) (hy : y < 4294967296) : bits BinOp.and IntKind.u32 ((y : Int) / 2 ^ j) 1 = ((y / 2 ^ j % 2 : Nat) : Int) := by
  have h := and1_32 (y / 2 ^ j) (Nat.lt_of_le_of_lt (Nat.div_le_self _ _) hy)
  rw [← h]; simp

theorem flip_step {wr : World} {g : Nat} {l m : List UInt8} {k y L j p r : Nat} (hll : l.length = L) (hp : p = (k + j) / 8) (hr : r = (k + j) % 8) (hin : k + j < 8 * L) (hb : y / 2 ^ j % 2 = 1)
    (hnum : num l = num m ^^^ turned k y (8 * L) j) (hbt : Bts wr g l) :
    ∃ l' : List UInt8, l'.length = L ∧ num l' = num m ^^^ turned k y (8 * L) (j + 1) ∧
      Bts (wr.setCell ⟨g, p, none⟩ (.int .u8 (bits BinOp.xor IntKind.u8 ((l[p]?.getD 0).toNat : Int) (2 ^ r % 256)))).drew g l' := by
  have hpl : p < l.length := by omega
  have hr7 : r ≤ 7 := by omega
  have hr2 : 2 ^ r < 256 := Nat.lt_of_le_of_lt (Nat.pow_le_pow_right (by omega) hr7) (by omega)
  have e : (l[p]?.getD 0) = l[p] := by simp [hpl]
  have hcl := l[p].toNat_lt
  have hx : l[p].toNat ^^^ 2 ^ r < 256 := Nat.xor_lt_two_pow (n := 8) hcl hr2
  have e3 : (UInt8.ofNat (l[p].toNat ^^^ 2 ^ r)).toNat = l[p].toNat ^^^ 2 ^ r := by rw [UInt8.toNat_ofNat', Nat.mod_eq_of_lt hx]
  have e4 : bits BinOp.xor IntKind.u8 ((l[p]?.getD 0).toNat : Int) (2 ^ r % 256) = (((UInt8.ofNat (l[p].toNat ^^^ 2 ^ r)).toNat : Nat) : Int) := by
    rw [e, e3, ← u8_xor_nat _ _ hcl hr2]
    have h2 : (2 : Int) ^ r = ((2 ^ r : Nat) : Int) := by simp
    rw [h2]
    generalize 2 ^ r = z at *
    rw [show (z : Int) % 256 = (z : Int) by omega]
  refine ⟨l.set p (UInt8.ofNat (l[p].toNat ^^^ 2 ^ r)), by rw [List.length_set]; exact hll, ?_, (hbt.set p hpl _ _ e4).drewN 1⟩
  rw [num_set l p _ (2 ^ r) hpl hr2 e3, hnum, turned_flip k y (8 * L) j hb hin, ← Nat.pow_add, show 8 * p + r = k + j by omega, Nat.xor_assoc]

theorem num_le4 (c : Nat) (h : c < 4294967296) : num (le4 c) = c := by
  simp [num, le4]; omega
theorem mark_run (t : List UInt8) : runN 4294967295 (markL t) = bitN 32 4294967295 :=
  marked_run t _ (crcV t) (num_le4 _ (crcV_lt t)) (le4_length _) (crcV_lt t) rfl

/-- What is turned so, and another text, is no marked one. -/
theorem burst_bad (l m : List UInt8) (k y n : Nat) (t : List UInt8) (hm : m = markL t) (hl : l.length = n + 4) (ht : t.length = n) (hk : k ≤ 8 * l.length) (hy : y < 4294967296) (hne : ¬ l = m)
    (hnum : num l = num m ^^^ turned k y (8 * l.length) 32) : ¬ ((str l).extract n (str l).size).toList = le4 (crcV ((str l).extract 0 n).data.toList) := by
  intro h
  have hml : m.length = l.length := by rw [hm, hl]; simp [markL, le4_length, ht]
  have h1 := (mark_iff (str l) n (by rw [size_str, hl])).2 h
  rw [data_str] at h1
  refine burst m l k y hml (by rw [hml]; exact hk) hy hne (by rw [hml]; exact hnum) ?_
  rw [← h1, mark_run, hm, mark_run]

end Go.Proofs.Ytlochpnifjmefaa
