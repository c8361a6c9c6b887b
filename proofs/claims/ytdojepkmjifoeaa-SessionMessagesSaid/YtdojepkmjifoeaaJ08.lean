/- What of stage 1's texts serves frames too: marks that are one, bits turned, kinds of numbers.; Frames: how they stand as bytes; Size, number, a frame's Bytes, the awake example.; What a text tells of a frame at its beginning: plain facts, no program. -/
import Derived.Test.YtdojepkmjifoeaaJ07
import Derived.Test.YtdojepkmjifoeaaJ04
import Derived.Test.YtdojepkmjifoeaaJ01
import Derived.Lib.Strings
set_option linter.unusedVariables false
set_option linter.unusedSimpArgs false
namespace Go.Proofs.Ytdojepkmjifoeaa
open Go.RowKit
/-- A text of four bytes or more is its head and its last four. -/
theorem mark_iff (t : ByteArray) (n : Nat) (_hn : t.size = n + 4) : markL (t.extract 0 n).data.toList = t.data.toList ↔ (t.extract n t.size).toList = le4 (crcV (t.extract 0 n).data.toList) := by
  have h1 : (t.extract 0 n).data.toList = t.data.toList.take n := by simp
  have h2 : (t.extract n t.size).toList = t.data.toList.drop n := by
    rw [Lib.extract_toList, List.take_of_length_le]
    simp
  have h3 : t.data.toList = t.data.toList.take n ++ t.data.toList.drop n := (List.take_append_drop n t.data.toList).symm
  rw [h2, h1]
  unfold markL
  generalize le4 (crcV (t.data.toList.take n)) = L
  constructor
  · intro h
    rw [h3] at h
    simp only [List.take_append_drop] at h
    have h' : t.data.toList.take n ++ L = t.data.toList.take n ++ t.data.toList.drop n := by rw [List.take_append_drop]; exact h
    exact (List.append_cancel_left h').symm
  · intro h
    rw [← h, List.take_append_drop]

theorem wf16 {a : Int} (h : (Lit.int .u16 a).wf = true) : 0 ≤ a ∧ a < 65536 := by
  simp [Lit.wf, IntKind.min, IntKind.max, IntKind.signed, IntKind.bits] at h
  omega
theorem size_zero {s : ByteArray} (h : s.size = 0) : s = ByteArray.empty := by
  apply ByteArray.ext
  exact Array.eq_empty_of_size_eq_zero h

theorem wf32 {a : Int} (h : (Lit.int .u32 a).wf = true) : 0 ≤ a ∧ a < 4294967296 := by
  simp [Lit.wf, IntKind.min, IntKind.max, IntKind.signed, IntKind.bits] at h
  omega
theorem wf8 {a : Int} (h : (Lit.int .u8 a).wf = true) : 0 ≤ a ∧ a < 256 := by
  simp [Lit.wf, IntKind.min, IntKind.max, IntKind.signed, IntKind.bits] at h
  omega
theorem toList_add (s t : ByteArray) : (s ++ t).data.toList = s.data.toList ++ t.data.toList := by simp
theorem size_add (s t : ByteArray) : (s ++ t).size = s.size + t.size := ByteArray.size_append

theorem empty_no (s : ByteArray) (h : 1 ≤ s.size) : s.toList.isEmpty = false := by
  rw [ByteArray.toList_eq]
  have e : s.data.toList.length = s.size := by simp
  cases hl : s.data.toList with
  | nil => rw [hl] at e; simp at e; omega
  | cons c l => rfl
theorem empty_yes (s : ByteArray) (h : s.size = 0) : s.toList.isEmpty = true := by
  rw [ByteArray.toList_eq]
  have e : s.data.toList.length = s.size := by simp
  rw [List.eq_nil_of_length_eq_zero (by omega : s.data.toList.length = 0)]
  rfl

theorem bit_at (y j : Nat) (hy : y < 4294967296) : bits BinOp.and IntKind.u32 ((y : Int) / 2 ^ j) 1 = ((y / 2 ^ j % 2 : Nat) : Int) := by
  have h := and1_32 (y / 2 ^ j) (Nat.lt_of_le_of_lt (Nat.div_le_self _ _) hy)
  rw [← h]; simp

theorem flip_step {wr : World} {g : Nat} {l m : List UInt8} {k y L j p r : Nat} (hll : l.length = L) (hp : p = (k + j) / 8) (hr : r = (k + j) % 8) (hin : k + j < 8 * L) (hb : y / 2 ^ j % 2 = 1)
    (hnum : num l = num m ^^^ turned k y (8 * L) j) (hbt : Bts wr g l) :
    ∃ l' : List UInt8, l'.length = L ∧ num l' = num m ^^^ turned k y (8 * L) (j + 1) ∧
      Bts (wr.setCell ⟨g, p, none⟩ (.int .u8 (bits BinOp.xor IntKind.u8 ((l[p]?.getD 0).toNat : Int) (2 ^ r % 256)))).drew g l' := by
  have hpl : p < l.length := by omega
  have hr7 : r ≤ 7 := by omega
  have hr2 : 2 ^ r < 256 := Nat.lt_of_le_of_lt (Nat.pow_le_pow_right (by omega) hr7) (by omega)
  have e : (l[p]?.getD 0) = l[p] := by simp [hpl]
  have hcl := l[p].toNat_lt
  have hx : l[p].toNat ^^^ 2 ^ r < 256 := Nat.xor_lt_two_pow (n := 8) hcl hr2
  have e3 : (UInt8.ofNat (l[p].toNat ^^^ 2 ^ r)).toNat = l[p].toNat ^^^ 2 ^ r := by rw [UInt8.toNat_ofNat', Nat.mod_eq_of_lt hx]
  have e4 : bits BinOp.xor IntKind.u8 ((l[p]?.getD 0).toNat : Int) (2 ^ r % 256) = (((UInt8.ofNat (l[p].toNat ^^^ 2 ^ r)).toNat : Nat) : Int) := by
    rw [e, e3, ← u8_xor_nat _ _ hcl hr2]
    have h2 : (2 : Int) ^ r = ((2 ^ r : Nat) : Int) := by simp
    rw [h2]
    generalize 2 ^ r = z at *
    rw [show (z : Int) % 256 = (z : Int) by omega]
  refine ⟨l.set p (UInt8.ofNat (l[p].toNat ^^^ 2 ^ r)), by rw [List.length_set]; exact hll, ?_, (hbt.set p hpl _ _ e4).drewN 1⟩
  rw [num_set l p _ (2 ^ r) hpl hr2 e3, hnum, turned_flip k y (8 * L) j hb hin, ← Nat.pow_add, show 8 * p + r = k + j by omega, Nat.xor_assoc]

theorem num_le4 (c : Nat) (h : c < 4294967296) : num (le4 c) = c := by
  simp [num, le4]; omega
theorem mark_run (t : List UInt8) : runN 4294967295 (markL t) = bitN 32 4294967295 :=
  marked_run t _ (crcV t) (num_le4 _ (crcV_lt t)) (le4_length _) (crcV_lt t) rfl

/-- What is turned so, and another text, is no marked one. -/
theorem burst_bad (l m : List UInt8) (k y n : Nat) (t : List UInt8) (hm : m = markL t) (hl : l.length = n + 4) (ht : t.length = n) (hk : k ≤ 8 * l.length) (hy : y < 4294967296) (hne : ¬ l = m)
    (hnum : num l = num m ^^^ turned k y (8 * l.length) 32) : ¬ ((str l).extract n (str l).size).toList = le4 (crcV ((str l).extract 0 n).data.toList) := by
  intro h
  have hml : m.length = l.length := by rw [hm, hl]; simp [markL, le4_length, ht]
  have h1 := (mark_iff (str l) n (by rw [size_str, hl])).2 h
  rw [data_str] at h1
  refine burst m l k y hml (by rw [hml]; exact hk) hy hne (by rw [hml]; exact hnum) ?_
  rw [← h1, mark_run, hm, mark_run]

end Go.Proofs.Ytdojepkmjifoeaa

namespace Go.Proofs.Ytdojepkmjifoeaa
open Go.RowKit

/-- The first sixteen bytes of a frame. -/
def hdr (k e n : Nat) : List UInt8 := [79, 70, 1] ++ be k 1 ++ be e 8 ++ be n 4
/-- A frame's bytes. -/
def frameL (k e : Nat) (b : List UInt8) : List UInt8 := markL (hdr k e b.length ++ b)
theorem hdr_length (k e n : Nat) : (hdr k e n).length = 16 := by simp [hdr, be_length]
theorem frameL_length (k e : Nat) (b : List UInt8) : (frameL k e b).length = b.length + 20 := by
  simp [frameL, markL, hdr_length, le4_length]; omega

theorem run_add_bytes (a b : List UInt8) (h : a.length + b.length ≤ 1000000000) (W : World) : (Op.stringOp .add (str a) (str b)).run Try.prog W = .ok (.string (str (a ++ b))) W := run_str_add a b h W

theorem size_any (n : Nat) (hn : n ≤ 1000000000) (w : World) : Calls Try.prog 60 #[.int .i64 n] w fun e w' => e = .returned (.int .i64 (n + 20 : Nat)) ∧ w = w' := by
  go_enter Try.func60, Try.ntmps60
  go_wp2
  go_ret
  refine ⟨?_, rfl⟩
  have h : min (n : Int) 9223372036854775787 + 20 = ((n + 20 : Nat) : Int) := by omega
  exact congrArg (fun z => Ending.returned (.int .i64 z)) h

/-- A block that holds a frame. -/
def Fr (w : World) (g : Nat) (k : Int) (e : Nat) (b : ByteArray) : Prop :=
  w.cell? ⟨g, 0, none⟩ = some (.int .i64 k) ∧ w.cell? ⟨g, 1, none⟩ = some (.int .u64 (e : Int)) ∧ w.cell? ⟨g, 2, none⟩ = some (.string b)
theorem Fr.below {w w' : World} {B g : Nat} {k : Int} {e : Nat} {b : ByteArray} (h : Fr w g k e b) (hb : Below B w w') (hg : g < B) : Fr w' g k e b := by
  obtain ⟨h0, h1, h2⟩ := h
  exact ⟨(hb.cell (p := ⟨g, 0, none⟩) hg).trans h0, (hb.cell (p := ⟨g, 1, none⟩) hg).trans h1, (hb.cell (p := ⟨g, 2, none⟩) hg).trans h2⟩
theorem Fr.new (w : World) (k : Int) (e : Nat) (b : ByteArray) : Fr (w.alloc (.cells #[.int .i64 k, .int .u64 (e : Int), .string b] 57)) w.heap.size k e b :=
  ⟨cell_new w _ 57 0, cell_new w _ 57 1, cell_new w _ 57 2⟩

theorem bytes_kind (k : Int) (e : Nat) (b : ByteArray) (hk : k < 1 ∨ 255 < k) (w : World) :
    Calls Try.prog 21 #[.agg #[.int .i64 k, .int .u64 e, .string b]] w fun r w' => r = .returned (.tuple #[.string ⟨#[]⟩, .int .i64 10]) ∧ Below w.heap.size w w' := by
  rcases hk with hk | hk
  · go_enter Try.func21, Try.ntmps21
    go_wp2
    go_ret2
    exact ⟨rfl, (Below.refl _ _).alloc (Nat.le_refl _) _⟩
  · have hk' : ¬ k < 1 := by omega
    go_enter Try.func21, Try.ntmps21
    go_wp2
    go_ret2
    exact ⟨rfl, (Below.refl _ _).alloc (Nat.le_refl _) _⟩
theorem bytes_long (k : Int) (e : Nat) (b : ByteArray) (h1 : 1 ≤ k) (h2 : k ≤ 255) (hb : 8192 < b.size) (w : World) :
    Calls Try.prog 21 #[.agg #[.int .i64 k, .int .u64 e, .string b]] w fun r w' => r = .returned (.tuple #[.string ⟨#[]⟩, .int .i64 5]) ∧ Below w.heap.size w w' := by
  have h1' : ¬ k < 1 := by omega
  go_enter Try.func21, Try.ntmps21
  go_wp2
  go_ret2
  exact ⟨rfl, (Below.refl _ _).alloc (Nat.le_refl _) _⟩

set_option maxHeartbeats 1000000 in
theorem bytes_ok (k e : Nat) (b : ByteArray) (h1 : 1 ≤ k) (h2 : k ≤ 255) (he : e ≤ 18446744073709551615) (hb : b.size ≤ 8192) (w : World) :
    Calls Try.prog 21 #[.agg #[.int .i64 k, .int .u64 e, .string b]] w fun r w' => r = .returned (.tuple #[.string (str (frameL k e b.data.toList)), .int .i64 0]) ∧ Below w.heap.size w w' := by
  have k1 := fun w => put_any k 1 (by omega) w
  have k2 := fun w => put_any e 8 he w
  have k3 := fun w => put_any b.size 4 (by omega) w
  rw [show clip 1 = 1 from rfl] at k1
  rw [show clip 8 = 8 from rfl] at k2
  rw [show clip 4 = 4 from rfl] at k3
  have l1 := be_length k 1
  have l2 := be_length e 8
  have l3 := be_length b.size 4
  have hF : frameL k e b.data.toList = markL ([79, 70, 1] ++ be k 1 ++ be e 8 ++ be b.size 4 ++ b.data.toList) := by
    unfold frameL hdr; simp
  rw [hF]
  clear hF
  have hk' : ¬ (k : Int) < 1 := by omega
  generalize be k 1 = d1 at *
  generalize be e 8 = d2 at *
  generalize be b.size 4 = d3 at *
  have a1 : ∀ W, (Op.stringOp .add ⟨#[79, 70, 1]⟩ (str d1)).run Try.prog W = .ok (.string (str ([79, 70, 1] ++ d1))) W := fun W => run_add_bytes [79, 70, 1] d1 (by simp; omega) W
  have a2 := fun W => run_add_bytes ([79, 70, 1] ++ d1) d2 (by simp; omega) W
  have a3 := fun W => run_add_bytes ([79, 70, 1] ++ d1 ++ d2) d3 (by simp; omega) W
  have a4 : ∀ W, (Op.stringOp .add (str ([79, 70, 1] ++ d1 ++ d2 ++ d3)) b).run Try.prog W = .ok (.string (str ([79, 70, 1] ++ d1 ++ d2 ++ d3 ++ b.data.toList))) W := by
    intro W
    have := run_add_bytes ([79, 70, 1] ++ d1 ++ d2 ++ d3) b.data.toList (by simp; omega) W
    rw [str_data] at this
    exact this
  have hM : ([79, 70, 1] ++ d1 ++ d2 ++ d3 ++ b.data.toList).length ≤ 10000 := by simp; omega
  generalize [79, 70, 1] ++ d1 = e1 at *
  generalize e1 ++ d2 = e2 at *
  generalize e2 ++ d3 = e3 at *
  generalize e3 ++ b.data.toList = e4 at *
  have k4 := fun w => mark_any (str e4) w (by rw [size_str]; omega)
  rw [data_str] at k4
  generalize markL e4 = M at *
  clear hM l1 l2 l3 he
  have K1 := Lib.hid k1
  have K2 := Lib.hid k2
  have K3 := Lib.hid k3
  have K4 := Lib.hid k4
  clear k1 k2 k3 k4
  obtain ⟨w0, hw0⟩ : ∃ w0, w0 = w.alloc (.cells #[.int .i64 (k : Int), .int .u64 (e : Int), .string b] 57) := ⟨_, rfl⟩
  have hB : Below w.heap.size w w0 := by rw [hw0]; exact (Below.refl _ _).alloc (Nat.le_refl _) _
  have hlt : w.heap.size < w0.heap.size := by rw [hw0]; simp
  have hF : Fr w0 w.heap.size k e b := by rw [hw0]; exact Fr.new _ _ _ _
  have HB := Lib.hid hB
  have HF := Lib.hid hF
  have HLT := Lib.hid hlt
  clear hB hF hlt
  go_enter Try.func21, Try.ntmps21
  go_wp2_with fail
  rw [← hw0]
  have hW := Lib.hid hw0
  clear hw0
  refine (K1.out _).mono ?_
  rintro r w1 ⟨rfl, hb1⟩
  have HB1 := Lib.hid (HB.out.trans (hb1.mono HB.out.size))
  have HF1 := Lib.hid (HF.out.below hb1 HLT.out)
  have HL1 := Lib.hid (Nat.lt_of_lt_of_le HLT.out hb1.size)
  obtain ⟨c0, c1, c2⟩ := HF1.out
  clear hb1
  go_wp2_with fail
  clear c0 c1 c2
  refine (K2.out _).mono ?_
  rintro r w2 ⟨rfl, hb2⟩
  have HB2 := Lib.hid (HB1.out.trans (hb2.mono HB1.out.size))
  have HF2 := Lib.hid (HF1.out.below hb2 HL1.out)
  have HL2 := Lib.hid (Nat.lt_of_lt_of_le HL1.out hb2.size)
  obtain ⟨c0, c1, c2⟩ := HF2.out
  clear hb2
  go_wp2_with fail
  clear c0 c1 c2
  refine (K3.out _).mono ?_
  rintro r w3 ⟨rfl, hb3⟩
  have HB3 := Lib.hid (HB2.out.trans (hb3.mono HB2.out.size))
  have HF3 := Lib.hid (HF2.out.below hb3 HL2.out)
  obtain ⟨c0, c1, c2⟩ := HF3.out
  clear hb3
  go_wp2_with fail
  refine (K4.out _).mono ?_
  rintro r w4 ⟨rfl, hb4⟩
  go_wp2
  go_ret2
  exact ⟨rfl, HB3.out.trans (hb4.mono HB3.out.size)⟩
end Go.Proofs.Ytdojepkmjifoeaa

namespace Go.Proofs.Ytdojepkmjifoeaa
open Go.RowKit

theorem ofNat_eq (a b : Nat) (h : a % 256 = b % 256) : UInt8.ofNat a = UInt8.ofNat b := by
  rw [← UInt8.toNat_inj]; simpa using h
theorem be_add (k : Nat) : ∀ a b : Nat, be (a * 256 ^ k + b) k = be b k := by
  induction k with
  | zero => intro a b; rfl
  | succ k ih =>
    intro a b
    have e : a * 256 ^ (k + 1) + b = (a * 256) * 256 ^ k + b := by rw [Nat.pow_succ, Nat.mul_assoc, Nat.mul_comm 256]
    show UInt8.ofNat ((a * 256 ^ (k + 1) + b) / 256 ^ k) :: be (a * 256 ^ (k + 1) + b) k = UInt8.ofNat (b / 256 ^ k) :: be b k
    rw [e, ih (a * 256) b, Nat.add_comm, Nat.add_mul_div_right _ _ (Nat.pow_pos (by omega)), ofNat_eq (b / 256 ^ k + a * 256) (b / 256 ^ k) (by omega)]
theorem be_gt (l : List UInt8) : be (gt l) l.length = l := by
  induction l with
  | nil => rfl
  | cons c l ih =>
    have h := gt_lt l
    show UInt8.ofNat (gt (c :: l) / 256 ^ l.length) :: be (gt (c :: l)) l.length = c :: l
    rw [gt_cons, be_add, ih, Nat.add_comm, Nat.add_mul_div_right _ _ (Nat.pow_pos (by omega)), Nat.div_eq_of_lt h, Nat.zero_add]
    simp
theorem gt_be (k : Nat) : ∀ n, n < 256 ^ k → gt (be n k) = n := by
  induction k with
  | zero => intro n h; simp at h; subst h; rfl
  | succ k ih =>
    intro n h
    have hp : 0 < 256 ^ k := Nat.pow_pos (by omega)
    have h1 : n / 256 ^ k < 256 := by rw [Nat.div_lt_iff_lt_mul hp]; rw [Nat.pow_succ, Nat.mul_comm] at h; exact h
    show gt (UInt8.ofNat (n / 256 ^ k) :: be n k) = n
    rw [gt_cons, be_length]
    have e : be n k = be (n % 256 ^ k) k := by
      conv => lhs; rw [← Nat.div_add_mod n (256 ^ k), Nat.mul_comm]
      exact be_add k _ _
    rw [e, ih _ (Nat.mod_lt _ hp), UInt8.toNat_ofNat', Nat.mod_eq_of_lt h1, Nat.mul_comm]
    exact Nat.div_add_mod n (256 ^ k)
theorem be_one (k : Nat) : be k 1 = [UInt8.ofNat k] := by simp [be]

/-- What the bytes 12 to 15 tell, those from 4 on, the byte at 3; what would be the body, the rest. -/
def lenN (s : ByteArray) : Nat := gt (s.extract 12 16).data.toList
def epS (s : ByteArray) : Nat := gt (s.extract 4 12).data.toList
def kindS (s : ByteArray) : Nat := (s.data.toList.getD 3 0).toNat
def bodyS (s : ByteArray) : ByteArray := s.extract 16 (lenN s + 16)
def restS (s : ByteArray) : ByteArray := s.extract (lenN s + 20) s.size
def preS (s : ByteArray) : Bool := Lib.hasPrefix s.data.toList [79, 70, 1]

theorem ext_list (s : ByteArray) (a b : Nat) : (s.extract a b).data.toList = (s.data.toList.drop a).take (b - a) := by
  simp [ByteArray.data_extract, List.extract_eq_take_drop]
theorem lenN_lt (s : ByteArray) : lenN s < 4294967296 := by
  have h := gt_lt (s.extract 12 16).data.toList
  have h2 : (s.extract 12 16).data.toList.length ≤ 4 := by rw [ext_list]; simp; omega
  exact Nat.lt_of_lt_of_le h (Nat.le_trans (Nat.pow_le_pow_right (by omega) h2) (by omega))
theorem epS_lt (s : ByteArray) : epS s ≤ 18446744073709551615 := by
  have h := gt_lt (s.extract 4 12).data.toList
  have h2 : (s.extract 4 12).data.toList.length ≤ 8 := by rw [ext_list]; simp; omega
  have h3 : epS s < 256 ^ 8 := Nat.lt_of_lt_of_le h (Nat.pow_le_pow_right (by omega) h2)
  have : (256 : Nat) ^ 8 = 18446744073709551616 := by rfl
  omega
theorem kindS_lt (s : ByteArray) : kindS s < 256 := (s.data.toList.getD 3 0).toNat_lt

theorem pre_iff (l : List UInt8) : Lib.hasPrefix l [79, 70, 1] = true ↔ l.take 3 = [79, 70, 1] := by
  unfold Lib.hasPrefix
  rw [List.isPrefixOf_iff_prefix, List.prefix_iff_eq_take]
  exact eq_comm
theorem pre_take (l : List UInt8) (h : Lib.hasPrefix l [79, 70, 1] = true) : l.take 3 = [79, 70, 1] := (pre_iff l).1 h
theorem head_eq (s : ByteArray) (h : 16 ≤ s.size) (hp : preS s = true) : s.data.toList.take 16 = hdr (kindS s) (epS s) (lenN s) := by
  have h1 := pre_take _ hp
  unfold hdr kindS epS lenN
  have hl : s.data.toList.length = s.size := by simp
  have e8 : (s.extract 4 12).data.toList.length = 8 := by rw [ext_list]; simp; omega
  have e4 : (s.extract 12 16).data.toList.length = 4 := by rw [ext_list]; simp; omega
  have b8 := be_gt (s.extract 4 12).data.toList
  have b4 := be_gt (s.extract 12 16).data.toList
  rw [e8] at b8
  rw [e4] at b4
  rw [b8, b4, be_one, UInt8.ofNat_toNat, ← h1, ext_list, ext_list]
  rw [← hl] at h
  generalize s.data.toList = l at *
  have s1 : l.take 16 = (l.take 12) ++ (l.drop 12).take 4 := by rw [← List.take_add]
  have s2 : l.take 12 = (l.take 4) ++ (l.drop 4).take 8 := by rw [← List.take_add]
  have s3 : l.take 4 = l.take 3 ++ [l.getD 3 0] := by
    rw [List.take_succ_eq_append_getElem (by omega)]
    simp [List.getD, List.getElem?_eq_getElem (show 3 < l.length by omega)]
  rw [s1, s2, s3]

/-- Do the first bytes stand as the frame that they tell? -/
def okS (s : ByteArray) : Prop := s.data.toList.take (lenN s + 20) = frameL (kindS s) (epS s) (bodyS s).data.toList
instance (s : ByteArray) : Decidable (okS s) := by unfold okS; infer_instance

theorem body_length (s : ByteArray) (h : lenN s + 20 ≤ s.size) : (bodyS s).data.toList.length = lenN s := by
  have hl : s.data.toList.length = s.size := by simp
  unfold bodyS; rw [ext_list]; simp; omega
theorem whole_eq (s : ByteArray) (h : lenN s + 20 ≤ s.size) (hp : preS s = true) : s.data.toList.take (lenN s + 16) = hdr (kindS s) (epS s) (lenN s) ++ (bodyS s).data.toList := by
  rw [← head_eq s (by omega) hp]
  unfold bodyS
  rw [ext_list, Nat.add_comm (lenN s) 16, List.take_add]
  congr 2
  omega
theorem ok_iff (s : ByteArray) (h : lenN s + 20 ≤ s.size) (hp : preS s = true) :
    okS s ↔ ((s.extract 0 (lenN s + 20)).extract (lenN s + 16) (s.extract 0 (lenN s + 20)).size).toList = le4 (crcV ((s.extract 0 (lenN s + 20)).extract 0 (lenN s + 16)).data.toList) := by
  have hl : s.data.toList.length = s.size := by simp
  have hsz : (s.extract 0 (lenN s + 20)).size = lenN s + 16 + 4 := by rw [ByteArray.size_extract]; omega
  rw [← mark_iff (s.extract 0 (lenN s + 20)) (lenN s + 16) hsz]
  have e1 : (s.extract 0 (lenN s + 20)).data.toList = s.data.toList.take (lenN s + 20) := by rw [ext_list]; simp
  have e2 : ((s.extract 0 (lenN s + 20)).extract 0 (lenN s + 16)).data.toList = s.data.toList.take (lenN s + 16) := by
    rw [ext_list, e1]; simp [List.take_take]
  rw [e1, e2, whole_eq s h hp]
  unfold okS frameL
  rw [body_length s h]
  exact eq_comm
theorem text_body (s : ByteArray) (h : lenN s + 20 ≤ s.size) :
    ((s.extract 0 (lenN s + 20)).extract 0 (lenN s + 16)).extract 16 ((s.extract 0 (lenN s + 20)).extract 0 (lenN s + 16)).size = bodyS s := by
  have hl : s.data.toList.length = s.size := by simp
  apply ByteArray.ext
  apply Array.ext'
  unfold bodyS
  have hsz : ((s.extract 0 (lenN s + 20)).extract 0 (lenN s + 16)).size = lenN s + 16 := by rw [ByteArray.size_extract, ByteArray.size_extract]; omega
  rw [hsz, ext_list, ext_list, ext_list, ext_list]
  simp [List.take_take, List.drop_take]

/-- The error. -/
def codeS (s : ByteArray) : Nat := if s.size < 20 then 3 else if preS s = false then 4 else if kindS s = 0 then 10 else if 8192 < lenN s then 5 else if s.size < lenN s + 20 then 3 else if okS s then 0 else 9
/-- What is read. -/
def rK (s : ByteArray) : Nat := if codeS s = 0 then kindS s else 0
def rE (s : ByteArray) : Nat := if codeS s = 0 then epS s else 0
def rB (s : ByteArray) : ByteArray := if codeS s = 0 then bodyS s else ⟨#[]⟩
def rR (s : ByteArray) : ByteArray := if codeS s = 0 then restS s else ⟨#[]⟩
/-- How many bytes. -/
def rN (s : ByteArray) : Nat := if codeS s = 0 then lenN s + 20 else 0
theorem code_ok {s : ByteArray} (h : codeS s = 0) : 20 ≤ s.size ∧ preS s = true ∧ 1 ≤ kindS s ∧ kindS s ≤ 255 ∧ lenN s ≤ 8192 ∧ lenN s + 20 ≤ s.size ∧ okS s := by
  have hk := kindS_lt s
  unfold codeS at h
  split at h
  · omega
  split at h
  · omega
  split at h
  · omega
  split at h
  · omega
  split at h
  · omega
  split at h
  · rename_i h1 h2 h3 h4 h5 h6
    exact ⟨by omega, by simpa using h2, by omega, by omega, by omega, by omega, h6⟩
  · omega
theorem r_bad {s : ByteArray} (h : codeS s ≠ 0) : rK s = 0 ∧ rE s = 0 ∧ rB s = ⟨#[]⟩ ∧ rR s = ⟨#[]⟩ ∧ rN s = 0 := by
  unfold rK rE rB rR rN
  rw [if_neg h, if_neg h, if_neg h, if_neg h, if_neg h]
  exact ⟨rfl, rfl, rfl, rfl, rfl⟩
theorem r_ok {s : ByteArray} (h : codeS s = 0) : rK s = kindS s ∧ rE s = epS s ∧ rB s = bodyS s ∧ rR s = restS s ∧ rN s = lenN s + 20 := by
  unfold rK rE rB rR rN
  rw [if_pos h, if_pos h, if_pos h, if_pos h, if_pos h]
  exact ⟨rfl, rfl, rfl, rfl, rfl⟩
end Go.Proofs.Ytdojepkmjifoeaa
