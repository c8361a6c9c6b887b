/- What of stage 1's texts serves frames too: marks that are one, bits turned, kinds of numbers.; Frames: how they stand as bytes; Size, number, a frame's Bytes, the awake example. -/
import Derived.Test.YtlochpnifjmefaaJ07
import Derived.Test.YtlochpnifjmefaaJ08
import Derived.Test.YtlochpnifjmefaaJ04
import Derived.Test.YtlochpnifjmefaaJ01
set_option linter.unusedVariables false
set_option linter.unusedSimpArgs false
namespace Go.Proofs.Ytlochpnifjmefaa
open Go.RowKit
/-- A text of four bytes or more is its head and its last four. -/
theorem mark_iff (t : ByteArray) (n : Nat) (_hn : t.size = n + 4) : markL (t.extract 0 n).data.toList = t.data.toList ↔ (t.extract n t.size).toList = le4 (crcV (t.extract 0 n).data.toList) := by
  have h1 : (t.extract 0 n).data.toList = t.data.toList.take n := by simp
  have h2 : (t.extract n t.size).toList = t.data.toList.drop n := by
    rw [Lib.extract_toList, List.take_of_length_le]
    simp
  have h3 : t.data.toList = t.data.toList.take n ++ t.data.toList.drop n := (List.take_append_drop n t.data.toList).symm
  rw [h2, h1]
  unfold markL
  generalize le4 (crcV (t.data.toList.take n)) = L
  constructor
  · intro h
    rw [h3] at h
    simp only [List.take_append_drop] at h
    have h' : t.data.toList.take n ++ L = t.data.toList.take n ++ t.data.toList.drop n := by rw [List.take_append_drop]; exact h
    exact (List.append_cancel_left h').symm
  · intro h
    rw [← h, List.take_append_drop]

theorem wf16 {a : Int} (h : (Lit.int .u16 a).wf = true) : 0 ≤ a ∧ a < 65536 := by
  simp [Lit.wf, IntKind.min, IntKind.max, IntKind.signed, IntKind.bits] at h
  omega
theorem size_zero {s : ByteArray} (h : s.size = 0) : s = ByteArray.empty := by
  apply ByteArray.ext
  exact Array.eq_empty_of_size_eq_zero h

theorem wf32 {a : Int} (h : (Lit.int .u32 a).wf = true) : 0 ≤ a ∧ a < 4294967296 := by
  simp [Lit.wf, IntKind.min, IntKind.max, IntKind.signed, IntKind.bits] at h
  omega
theorem wf8 {a : Int} (h : (Lit.int .u8 a).wf = true) : 0 ≤ a ∧ a < 256 := by
  simp [Lit.wf, IntKind.min, IntKind.max, IntKind.signed, IntKind.bits] at h
  omega
theorem toList_add (s t : ByteArray) : (s ++ t).data.toList = s.data.toList ++ t.data.toList := by simp
theorem size_add (s t : ByteArray) : (s ++ t).size = s.size + t.size := ByteArray.size_append

theorem empty_no (s : ByteArray) (h : 1 ≤ s.size) : s.toList.isEmpty = false := by
  rw [ByteArray.toList_eq]
  have e : s.data.toList.length = s.size := by simp
  cases hl : s.data.toList with
  | nil => rw [hl] at e; simp at e; omega
  | cons c l => rfl
theorem empty_yes (s : ByteArray) (h : s.size = 0) : s.toList.isEmpty = true := by
  rw [ByteArray.toList_eq]
  have e : s.data.toList.length = s.size := by simp
  rw [List.eq_nil_of_length_eq_zero (by omega : s.data.toList.length = 0)]
  rfl

theorem bit_at (y j : Nat) (hy : y < 4294967296) : bits BinOp.and IntKind.u32 ((y : Int) / 2 ^ j) 1 = ((y / 2 ^ j % 2 : Nat) : Int) := by
  have h := and1_32 (y / 2 ^ j) (Nat.lt_of_le_of_lt (Nat.div_le_self _ _) hy)
  rw [← h]; simp

theorem flip_step {wr : World} {g : Nat} {l m : List UInt8} {k y L j p r : Nat} (hll : l.length = L) (hp : p = (k + j) / 8) (hr : r = (k + j) % 8) (hin : k + j < 8 * L) (hb : y / 2 ^ j % 2 = 1)
    (hnum : num l = num m ^^^ turned k y (8 * L) j) (hbt : Bts wr g l) :
    ∃ l' : List UInt8, l'.length = L ∧ num l' = num m ^^^ turned k y (8 * L) (j + 1) ∧
      Bts (wr.setCell ⟨g, p, none⟩ (.int .u8 (bits BinOp.xor IntKind.u8 ((l[p]?.getD 0).toNat : Int) (2 ^ r % 256)))).drew g l' := by
  have hpl : p < l.length := by omega
  have hr7 : r ≤ 7 := by omega
  have hr2 : 2 ^ r < 256 := Nat.lt_of_le_of_lt (Nat.pow_le_pow_right (by omega) hr7) (by omega)
  have e : (l[p]?.getD 0) = l[p] := by simp [hpl]
  have hcl := l[p].toNat_lt
  have hx : l[p].toNat ^^^ 2 ^ r < 256 := Nat.xor_lt_two_pow (n := 8) hcl hr2
  have e3 : (UInt8.ofNat (l[p].toNat ^^^ 2 ^ r)).toNat = l[p].toNat ^^^ 2 ^ r := by rw [UInt8.toNat_ofNat', Nat.mod_eq_of_lt hx]
  have e4 : bits BinOp.xor IntKind.u8 ((l[p]?.getD 0).toNat : Int) (2 ^ r % 256) = (((UInt8.ofNat (l[p].toNat ^^^ 2 ^ r)).toNat : Nat) : Int) := by
    rw [e, e3, ← u8_xor_nat _ _ hcl hr2]
    have h2 : (2 : Int) ^ r = ((2 ^ r : Nat) : Int) := by simp
    rw [h2]
    generalize 2 ^ r = z at *
    rw [show (z : Int) % 256 = (z : Int) by omega]
  refine ⟨l.set p (UInt8.ofNat (l[p].toNat ^^^ 2 ^ r)), by rw [List.length_set]; exact hll, ?_, (hbt.set p hpl _ _ e4).drewN 1⟩
  rw [num_set l p _ (2 ^ r) hpl hr2 e3, hnum, turned_flip k y (8 * L) j hb hin, ← Nat.pow_add, show 8 * p + r = k + j by omega, Nat.xor_assoc]

theorem num_le4 (c : Nat) (h : c < 4294967296) : num (le4 c) = c := by
  simp [num, le4]; omega
theorem mark_run (t : List UInt8) : runN 4294967295 (markL t) = bitN 32 4294967295 :=
  marked_run t _ (crcV t) (num_le4 _ (crcV_lt t)) (le4_length _) (crcV_lt t) rfl

/-- What is turned so, and another text, is no marked one. -/
theorem burst_bad (l m : List UInt8) (k y n : Nat) (t : List UInt8) (hm : m = markL t) (hl : l.length = n + 4) (ht : t.length = n) (hk : k ≤ 8 * l.length) (hy : y < 4294967296) (hne : ¬ l = m)
    (hnum : num l = num m ^^^ turned k y (8 * l.length) 32) : ¬ ((str l).extract n (str l).size).toList = le4 (crcV ((str l).extract 0 n).data.toList) := by
  intro h
  have hml : m.length = l.length := by rw [hm, hl]; simp [markL, le4_length, ht]
  have h1 := (mark_iff (str l) n (by rw [size_str, hl])).2 h
  rw [data_str] at h1
  refine burst m l k y hml (by rw [hml]; exact hk) hy hne (by rw [hml]; exact hnum) ?_
  rw [← h1, mark_run, hm, mark_run]

end Go.Proofs.Ytlochpnifjmefaa

namespace Go.Proofs.Ytlochpnifjmefaa
open Go.RowKit

/-- The first sixteen bytes of a frame. -/
def hdr (k e n : Nat) : List UInt8 := [79, 70, 1] ++ be k 1 ++ be e 8 ++ be n 4
/-- A frame's bytes. -/
def frameL (k e : Nat) (b : List UInt8) : List UInt8 := markL (hdr k e b.length ++ b)
theorem hdr_length (k e n : Nat) : (hdr k e n).length = 16 := by simp [hdr, be_length]
theorem frameL_length (k e : Nat) (b : List UInt8) : (frameL k e b).length = b.length + 20 := by
  simp [frameL, markL, hdr_length, le4_length]; omega

theorem run_add_bytes (a b : List UInt8) (h : a.length + b.length ≤ 1000000000) (W : World) : (Op.stringOp .add (str a) (str b)).run Try.prog W = .ok (.string (str (a ++ b))) W := run_str_add a b h W

theorem size_any (n : Nat) (hn : n ≤ 1000000000) (w : World) : Calls Try.prog 27 #[.int .i64 n] w fun e w' => e = .returned (.int .i64 (n + 20 : Nat)) ∧ w = w' := by
  go_enter Try.func27, Try.ntmps27
  go_wp2
  go_ret
  refine ⟨?_, rfl⟩
  have h : min (n : Int) 9223372036854775787 + 20 = ((n + 20 : Nat) : Int) := by omega
  exact congrArg (fun z => Ending.returned (.int .i64 z)) h

/-- A block that holds a frame. -/
def Fr (w : World) (g : Nat) (k : Int) (e : Nat) (b : ByteArray) : Prop :=
  w.cell? ⟨g, 0, none⟩ = some (.int .i64 k) ∧ w.cell? ⟨g, 1, none⟩ = some (.int .u64 (e : Int)) ∧ w.cell? ⟨g, 2, none⟩ = some (.string b)
theorem Fr.below {w w' : World} {B g : Nat} {k : Int} {e : Nat} {b : ByteArray} (h : Fr w g k e b) (hb : Below B w w') (hg : g < B) : Fr w' g k e b := by
  obtain ⟨h0, h1, h2⟩ := h
  exact ⟨(hb.cell (p := ⟨g, 0, none⟩) hg).trans h0, (hb.cell (p := ⟨g, 1, none⟩) hg).trans h1, (hb.cell (p := ⟨g, 2, none⟩) hg).trans h2⟩
theorem Fr.new (w : World) (k : Int) (e : Nat) (b : ByteArray) : Fr (w.alloc (.cells #[.int .i64 k, .int .u64 (e : Int), .string b] 51)) w.heap.size k e b :=
  ⟨cell_new w _ 51 0, cell_new w _ 51 1, cell_new w _ 51 2⟩

theorem bytes_kind (k : Int) (e : Nat) (b : ByteArray) (hk : k < 1 ∨ 255 < k) (w : World) :
    Calls Try.prog 23 #[.agg #[.int .i64 k, .int .u64 e, .string b]] w fun r w' => r = .returned (.tuple #[.string ⟨#[]⟩, .int .i64 10]) ∧ Below w.heap.size w w' := by
  rcases hk with hk | hk
  · go_enter Try.func23, Try.ntmps23
    go_wp2
    go_ret2
    exact ⟨rfl, (Below.refl _ _).alloc (Nat.le_refl _) _⟩
  · have hk' : ¬ k < 1 := by omega
    go_enter Try.func23, Try.ntmps23
    go_wp2
    go_ret2
    exact ⟨rfl, (Below.refl _ _).alloc (Nat.le_refl _) _⟩
theorem bytes_long (k : Int) (e : Nat) (b : ByteArray) (h1 : 1 ≤ k) (h2 : k ≤ 255) (hb : 8192 < b.size) (w : World) :
    Calls Try.prog 23 #[.agg #[.int .i64 k, .int .u64 e, .string b]] w fun r w' => r = .returned (.tuple #[.string ⟨#[]⟩, .int .i64 5]) ∧ Below w.heap.size w w' := by
  have h1' : ¬ k < 1 := by omega
  go_enter Try.func23, Try.ntmps23
  go_wp2
  go_ret2
  exact ⟨rfl, (Below.refl _ _).alloc (Nat.le_refl _) _⟩

set_option maxHeartbeats 1000000 in
theorem bytes_ok (k e : Nat) (b : ByteArray) (h1 : 1 ≤ k) (h2 : k ≤ 255) (he : e ≤ 18446744073709551615) (hb : b.size ≤ 8192) (w : World) :
    Calls Try.prog 23 #[.agg #[.int .i64 k, .int .u64 e, .string b]] w fun r w' => r = .returned (.tuple #[.string (str (frameL k e b.data.toList)), .int .i64 0]) ∧ Below w.heap.size w w' := by
  have k1 := fun w => put_any k 1 (by omega) w
  have k2 := fun w => put_any e 8 he w
  have k3 := fun w => put_any b.size 4 (by omega) w
  rw [show clip 1 = 1 from rfl] at k1
  rw [show clip 8 = 8 from rfl] at k2
  rw [show clip 4 = 4 from rfl] at k3
  have l1 := be_length k 1
  have l2 := be_length e 8
  have l3 := be_length b.size 4
  have hF : frameL k e b.data.toList = markL ([79, 70, 1] ++ be k 1 ++ be e 8 ++ be b.size 4 ++ b.data.toList) := by
    unfold frameL hdr; simp
  rw [hF]
  clear hF
  have hk' : ¬ (k : Int) < 1 := by omega
  generalize be k 1 = d1 at *
  generalize be e 8 = d2 at *
  generalize be b.size 4 = d3 at *
  have a1 : ∀ W, (Op.stringOp .add ⟨#[79, 70, 1]⟩ (str d1)).run Try.prog W = .ok (.string (str ([79, 70, 1] ++ d1))) W := fun W => run_add_bytes [79, 70, 1] d1 (by simp; omega) W
  have a2 := fun W => run_add_bytes ([79, 70, 1] ++ d1) d2 (by simp; omega) W
  have a3 := fun W => run_add_bytes ([79, 70, 1] ++ d1 ++ d2) d3 (by simp; omega) W
  have a4 : ∀ W, (Op.stringOp .add (str ([79, 70, 1] ++ d1 ++ d2 ++ d3)) b).run Try.prog W = .ok (.string (str ([79, 70, 1] ++ d1 ++ d2 ++ d3 ++ b.data.toList))) W := by
    intro W
    have := run_add_bytes ([79, 70, 1] ++ d1 ++ d2 ++ d3) b.data.toList (by simp; omega) W
    rw [str_data] at this
    exact this
  have hM : ([79, 70, 1] ++ d1 ++ d2 ++ d3 ++ b.data.toList).length ≤ 10000 := by simp; omega
  generalize [79, 70, 1] ++ d1 = e1 at *
  generalize e1 ++ d2 = e2 at *
  generalize e2 ++ d3 = e3 at *
  generalize e3 ++ b.data.toList = e4 at *
  have k4 := fun w => mark_any (str e4) w (by rw [size_str]; omega)
  rw [data_str] at k4
  generalize markL e4 = M at *
  clear hM l1 l2 l3 he
  have K1 := Lib.hid k1
  have K2 := Lib.hid k2
  have K3 := Lib.hid k3
  have K4 := Lib.hid k4
  clear k1 k2 k3 k4
  obtain ⟨w0, hw0⟩ : ∃ w0, w0 = w.alloc (.cells #[.int .i64 (k : Int), .int .u64 (e : Int), .string b] 51) := ⟨_, rfl⟩
  have hB : Below w.heap.size w w0 := by rw [hw0]; exact (Below.refl _ _).alloc (Nat.le_refl _) _
  have hlt : w.heap.size < w0.heap.size := by rw [hw0]; simp
  have hF : Fr w0 w.heap.size k e b := by rw [hw0]; exact Fr.new _ _ _ _
  have HB := Lib.hid hB
  have HF := Lib.hid hF
  have HLT := Lib.hid hlt
  clear hB hF hlt
  go_enter Try.func23, Try.ntmps23
  go_wp2_with fail
  rw [← hw0]
  have hW := Lib.hid hw0
  clear hw0
  refine (K1.out _).mono ?_
  rintro r w1 ⟨rfl, hb1⟩
  have HB1 := Lib.hid (HB.out.trans (hb1.mono HB.out.size))
  have HF1 := Lib.hid (HF.out.below hb1 HLT.out)
  have HL1 := Lib.hid (Nat.lt_of_lt_of_le HLT.out hb1.size)
  obtain ⟨c0, c1, c2⟩ := HF1.out
  clear hb1
  go_wp2_with fail
  clear c0 c1 c2
  refine (K2.out _).mono ?_
  rintro r w2 ⟨rfl, hb2⟩
  have HB2 := Lib.hid (HB1.out.trans (hb2.mono HB1.out.size))
  have HF2 := Lib.hid (HF1.out.below hb2 HL1.out)
  have HL2 := Lib.hid (Nat.lt_of_lt_of_le HL1.out hb2.size)
  obtain ⟨c0, c1, c2⟩ := HF2.out
  clear hb2
  go_wp2_with fail
  clear c0 c1 c2
  refine (K3.out _).mono ?_
  rintro r w3 ⟨rfl, hb3⟩
  have HB3 := Lib.hid (HB2.out.trans (hb3.mono HB2.out.size))
  have HF3 := Lib.hid (HF2.out.below hb3 HL2.out)
  obtain ⟨c0, c1, c2⟩ := HF3.out
  clear hb3
  go_wp2_with fail
  refine (K4.out _).mono ?_
  rintro r w4 ⟨rfl, hb4⟩
  go_wp2
  go_ret2
  exact ⟨rfl, HB3.out.trans (hb4.mono HB3.out.size)⟩
end Go.Proofs.Ytlochpnifjmefaa
