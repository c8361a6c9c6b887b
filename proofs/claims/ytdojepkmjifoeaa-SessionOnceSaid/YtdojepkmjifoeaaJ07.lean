/- Frames: how they stand as bytes; Size, number, a frame's Bytes, the awake example.; What a text tells of a frame at its beginning: plain facts, no program.; frame.number, frame.read; awake. -/
import Derived.Test.YtdojepkmjifoeaaJ06
import Derived.Test.YtdojepkmjifoeaaJ03
import Derived.Test.YtdojepkmjifoeaaJ05
import Derived.Lib.Strings
set_option linter.unusedVariables false
set_option linter.unusedSimpArgs false
namespace Go.Proofs.Ytdojepkmjifoeaa
open Go.RowKit

/-- The first sixteen bytes of a frame. -/
def hdr (k e n : Nat) : List UInt8 := [79, 70, 1] ++ be k 1 ++ be e 8 ++ be n 4
/-- A frame's bytes. -/
def frameL (k e : Nat) (b : List UInt8) : List UInt8 := markL (hdr k e b.length ++ b)
theorem hdr_length (k e n : Nat) : (hdr k e n).length = 16 := by simp [hdr, be_length]
theorem frameL_length (k e : Nat) (b : List UInt8) : (frameL k e b).length = b.length + 20 := by
  simp [frameL, markL, hdr_length, le4_length]; omega

theorem run_add_bytes (a b : List UInt8) (h : a.length + b.length ≤ 1000000000) (W : World) : (Op.stringOp .add (str a) (str b)).run Try.prog W = .ok (.string (str (a ++ b))) W := run_str_add a b h W

theorem size_any (n : Nat) (hn : n ≤ 1000000000) (w : World) : Calls Try.prog 60 #[.int .i64 n] w fun e w' => e = .returned (.int .i64 (n + 20 : Nat)) ∧ w = w' := by
  go_enter Try.func60, Try.ntmps60
  go_wp2
  go_ret
  refine ⟨?_, rfl⟩
  have h : min (n : Int) 9223372036854775787 + 20 = ((n + 20 : Nat) : Int) := by omega
  exact congrArg (fun z => Ending.returned (.int .i64 z)) h

/-- A block that holds a frame. -/
def Fr (w : World) (g : Nat) (k : Int) (e : Nat) (b : ByteArray) : Prop :=
  w.cell? ⟨g, 0, none⟩ = some (.int .i64 k) ∧ w.cell? ⟨g, 1, none⟩ = some (.int .u64 (e : Int)) ∧ w.cell? ⟨g, 2, none⟩ = some (.string b)
theorem Fr.below {w w' : World} {B g : Nat} {k : Int} {e : Nat} {b : ByteArray} (h : Fr w g k e b) (hb : Below B w w') (hg : g < B) : Fr w' g k e b := by
  obtain ⟨h0, h1, h2⟩ := h
  exact ⟨(hb.cell (p := ⟨g, 0, none⟩) hg).trans h0, (hb.cell (p := ⟨g, 1, none⟩) hg).trans h1, (hb.cell (p := ⟨g, 2, none⟩) hg).trans h2⟩
theorem Fr.new (w : World) (k : Int) (e : Nat) (b : ByteArray) : Fr (w.alloc (.cells #[.int .i64 k, .int .u64 (e : Int), .string b] 57)) w.heap.size k e b :=
  ⟨cell_new w _ 57 0, cell_new w _ 57 1, cell_new w _ 57 2⟩

theorem bytes_kind (k : Int) (e : Nat) (b : ByteArray) (hk : k < 1 ∨ 255 < k) (w : World) :
    Calls Try.prog 21 #[.agg #[.int .i64 k, .int .u64 e, .string b]] w fun r w' => r = .returned (.tuple #[.string ⟨#[]⟩, .int .i64 10]) ∧ Below w.heap.size w w' := by
  rcases hk with hk | hk
  · go_enter Try.func21, Try.ntmps21
    go_wp2
    go_ret2
    exact ⟨rfl, (Below.refl _ _).alloc (Nat.le_refl _) _⟩
  · have hk' : ¬ k < 1 := by omega
    go_enter Try.func21, Try.ntmps21
    go_wp2
    go_ret2
    exact ⟨rfl, (Below.refl _ _).alloc (Nat.le_refl _) _⟩
theorem bytes_long (k : Int) (e : Nat) (b : ByteArray) (h1 : 1 ≤ k) (h2 : k ≤ 255) (hb : 8192 < b.size) (w : World) :
    Calls Try.prog 21 #[.agg #[.int .i64 k, .int .u64 e, .string b]] w fun r w' => r = .returned (.tuple #[.string ⟨#[]⟩, .int .i64 5]) ∧ Below w.heap.size w w' := by
  have h1' : ¬ k < 1 := by omega
  go_enter Try.func21, Try.ntmps21
  go_wp2
  go_ret2
  exact ⟨rfl, (Below.refl _ _).alloc (Nat.le_refl _) _⟩

set_option maxHeartbeats 1000000 in
theorem bytes_ok (k e : Nat) (b : ByteArray) (h1 : 1 ≤ k) (h2 : k ≤ 255) (he : e ≤ 18446744073709551615) (hb : b.size ≤ 8192) (w : World) :
    Calls Try.prog 21 #[.agg #[.int .i64 k, .int .u64 e, .string b]] w fun r w' => r = .returned (.tuple #[.string (str (frameL k e b.data.toList)), .int .i64 0]) ∧ Below w.heap.size w w' := by
  have k1 := fun w => put_any k 1 (by omega) w
  have k2 := fun w => put_any e 8 he w
  have k3 := fun w => put_any b.size 4 (by omega) w
  rw [show clip 1 = 1 from rfl] at k1
  rw [show clip 8 = 8 from rfl] at k2
  rw [show clip 4 = 4 from rfl] at k3
  have l1 := be_length k 1
  have l2 := be_length e 8
  have l3 := be_length b.size 4
  have hF : frameL k e b.data.toList = markL ([79, 70, 1] ++ be k 1 ++ be e 8 ++ be b.size 4 ++ b.data.toList) := by
    unfold frameL hdr; simp
  rw [hF]
  clear hF
  have hk' : ¬ (k : Int) < 1 := by omega
  generalize be k 1 = d1 at *
  generalize be e 8 = d2 at *
  generalize be b.size 4 = d3 at *
  have a1 : ∀ W, (Op.stringOp .add ⟨#[79, 70, 1]⟩ (str d1)).run Try.prog W = .ok (.string (str ([79, 70, 1] ++ d1))) W := fun W => run_add_bytes [79, 70, 1] d1 (by simp; omega) W
  have a2 := fun W => run_add_bytes ([79, 70, 1] ++ d1) d2 (by simp; omega) W
  have a3 := fun W => run_add_bytes ([79, 70, 1] ++ d1 ++ d2) d3 (by simp; omega) W
  have a4 : ∀ W, (Op.stringOp .add (str ([79, 70, 1] ++ d1 ++ d2 ++ d3)) b).run Try.prog W = .ok (.string (str ([79, 70, 1] ++ d1 ++ d2 ++ d3 ++ b.data.toList))) W := by
    intro W
    have := run_add_bytes ([79, 70, 1] ++ d1 ++ d2 ++ d3) b.data.toList (by simp; omega) W
    rw [str_data] at this
    exact this
  have hM : ([79, 70, 1] ++ d1 ++ d2 ++ d3 ++ b.data.toList).length ≤ 10000 := by simp; omega
  generalize [79, 70, 1] ++ d1 = e1 at *
  generalize e1 ++ d2 = e2 at *
  generalize e2 ++ d3 = e3 at *
  generalize e3 ++ b.data.toList = e4 at *
  have k4 := fun w => mark_any (str e4) w (by rw [size_str]; omega)
  rw [data_str] at k4
  generalize markL e4 = M at *
  clear hM l1 l2 l3 he
  have K1 := Lib.hid k1
  have K2 := Lib.hid k2
  have K3 := Lib.hid k3
  have K4 := Lib.hid k4
  clear k1 k2 k3 k4
  obtain ⟨w0, hw0⟩ : ∃ w0, w0 = w.alloc (.cells #[.int .i64 (k : Int), .int .u64 (e : Int), .string b] 57) := ⟨_, rfl⟩
  have hB : Below w.heap.size w w0 := by rw [hw0]; exact (Below.refl _ _).alloc (Nat.le_refl _) _
  have hlt : w.heap.size < w0.heap.size := by rw [hw0]; simp
  have hF : Fr w0 w.heap.size k e b := by rw [hw0]; exact Fr.new _ _ _ _
  have HB := Lib.hid hB
  have HF := Lib.hid hF
  have HLT := Lib.hid hlt
  clear hB hF hlt
  go_enter Try.func21, Try.ntmps21
  go_wp2_with fail
  rw [← hw0]
  have hW := Lib.hid hw0
  clear hw0
  refine (K1.out _).mono ?_
  rintro r w1 ⟨rfl, hb1⟩
  have HB1 := Lib.hid (HB.out.trans (hb1.mono HB.out.size))
  have HF1 := Lib.hid (HF.out.below hb1 HLT.out)
  have HL1 := Lib.hid (Nat.lt_of_lt_of_le HLT.out hb1.size)
  obtain ⟨c0, c1, c2⟩ := HF1.out
  clear hb1
  go_wp2_with fail
  clear c0 c1 c2
  refine (K2.out _).mono ?_
  rintro r w2 ⟨rfl, hb2⟩
  have HB2 := Lib.hid (HB1.out.trans (hb2.mono HB1.out.size))
  have HF2 := Lib.hid (HF1.out.below hb2 HL1.out)
  have HL2 := Lib.hid (Nat.lt_of_lt_of_le HL1.out hb2.size)
  obtain ⟨c0, c1, c2⟩ := HF2.out
  clear hb2
  go_wp2_with fail
  clear c0 c1 c2
  refine (K3.out _).mono ?_
  rintro r w3 ⟨rfl, hb3⟩
  have HB3 := Lib.hid (HB2.out.trans (hb3.mono HB2.out.size))
  have HF3 := Lib.hid (HF2.out.below hb3 HL2.out)
  obtain ⟨c0, c1, c2⟩ := HF3.out
  clear hb3
  go_wp2_with fail
  refine (K4.out _).mono ?_
  rintro r w4 ⟨rfl, hb4⟩
  go_wp2
  go_ret2
  exact ⟨rfl, HB3.out.trans (hb4.mono HB3.out.size)⟩
end Go.Proofs.Ytdojepkmjifoeaa

namespace Go.Proofs.Ytdojepkmjifoeaa
open Go.RowKit

theorem ofNat_eq (a b : Nat) (h : a % 256 = b % 256) : UInt8.ofNat a = UInt8.ofNat b := by
  rw [← UInt8.toNat_inj]; simpa using h
theorem be_add (k : Nat) : ∀ a b : Nat, be (a * 256 ^ k + b) k = be b k := by
  induction k with
  | zero => intro a b; rfl
  | succ k ih =>
    intro a b
    have e : a * 256 ^ (k + 1) + b = (a * 256) * 256 ^ k + b := by rw [Nat.pow_succ, Nat.mul_assoc, Nat.mul_comm 256]
    show UInt8.ofNat ((a * 256 ^ (k + 1) + b) / 256 ^ k) :: be (a * 256 ^ (k + 1) + b) k = UInt8.ofNat (b / 256 ^ k) :: be b k
    rw [e, ih (a * 256) b, Nat.add_comm, Nat.add_mul_div_right _ _ (Nat.pow_pos (by omega)), ofNat_eq (b / 256 ^ k + a * 256) (b / 256 ^ k) (by omega)]
theorem be_gt (l : List UInt8) : be (gt l) l.length = l := by
  induction l with
  | nil => rfl
  | cons c l ih =>
    have h := gt_lt l
    show UInt8.ofNat (gt (c :: l) / 256 ^ l.length) :: be (gt (c :: l)) l.length = c :: l
    rw [gt_cons, be_add, ih, Nat.add_comm, Nat.add_mul_div_right _ _ (Nat.pow_pos (by omega)), Nat.div_eq_of_lt h, Nat.zero_add]
    simp
theorem gt_be (k : Nat) : ∀ n, n < 256 ^ k → gt (be n k) = n := by
  induction k with
  | zero => intro n h; simp at h; subst h; rfl
  | succ k ih =>
    intro n h
    have hp : 0 < 256 ^ k := Nat.pow_pos (by omega)
    have h1 : n / 256 ^ k < 256 := by rw [Nat.div_lt_iff_lt_mul hp]; rw [Nat.pow_succ, Nat.mul_comm] at h; exact h
    show gt (UInt8.ofNat (n / 256 ^ k) :: be n k) = n
    rw [gt_cons, be_length]
    have e : be n k = be (n % 256 ^ k) k := by
      conv => lhs; rw [← Nat.div_add_mod n (256 ^ k), Nat.mul_comm]
      exact be_add k _ _
    rw [e, ih _ (Nat.mod_lt _ hp), UInt8.toNat_ofNat', Nat.mod_eq_of_lt h1, Nat.mul_comm]
    exact Nat.div_add_mod n (256 ^ k)
theorem be_one (k : Nat) : be k 1 = [UInt8.ofNat k] := by simp [be]

/-- What the bytes 12 to 15 tell, those from 4 on, the byte at 3; what would be the body, the rest. -/
def lenN (s : ByteArray) : Nat := gt (s.extract 12 16).data.toList
def epS (s : ByteArray) : Nat := gt (s.extract 4 12).data.toList
def kindS (s : ByteArray) : Nat := (s.data.toList.getD 3 0).toNat
def bodyS (s : ByteArray) : ByteArray := s.extract 16 (lenN s + 16)
def restS (s : ByteArray) : ByteArray := s.extract (lenN s + 20) s.size
def preS (s : ByteArray) : Bool := Lib.hasPrefix s.data.toList [79, 70, 1]

theorem ext_list (s : ByteArray) (a b : Nat) : (s.extract a b).data.toList = (s.data.toList.drop a).take (b - a) := by
  simp [ByteArray.data_extract, List.extract_eq_take_drop]
theorem lenN_lt (s : ByteArray) : lenN s < 4294967296 := by
  have h := gt_lt (s.extract 12 16).data.toList
  have h2 : (s.extract 12 16).data.toList.length ≤ 4 := by rw [ext_list]; simp; omega
  exact Nat.lt_of_lt_of_le h (Nat.le_trans (Nat.pow_le_pow_right (by omega) h2) (by omega))
theorem epS_lt (s : ByteArray) : epS s ≤ 18446744073709551615 := by
  have h := gt_lt (s.extract 4 12).data.toList
  have h2 : (s.extract 4 12).data.toList.length ≤ 8 := by rw [ext_list]; simp; omega
  have h3 : epS s < 256 ^ 8 := Nat.lt_of_lt_of_le h (Nat.pow_le_pow_right (by omega) h2)
  have : (256 : Nat) ^ 8 = 18446744073709551616 := by rfl
  omega
theorem kindS_lt (s : ByteArray) : kindS s < 256 := (s.data.toList.getD 3 0).toNat_lt

theorem pre_iff (l : List UInt8) : Lib.hasPrefix l [79, 70, 1] = true ↔ l.take 3 = [79, 70, 1] := by
  unfold Lib.hasPrefix
  rw [List.isPrefixOf_iff_prefix, List.prefix_iff_eq_take]
  exact eq_comm
theorem pre_take (l : List UInt8) (h : Lib.hasPrefix l [79, 70, 1] = true) : l.take 3 = [79, 70, 1] := (pre_iff l).1 h
theorem head_eq (s : ByteArray) (h : 16 ≤ s.size) (hp : preS s = true) : s.data.toList.take 16 = hdr (kindS s) (epS s) (lenN s) := by
  have h1 := pre_take _ hp
  unfold hdr kindS epS lenN
  have hl : s.data.toList.length = s.size := by simp
  have e8 : (s.extract 4 12).data.toList.length = 8 := by rw [ext_list]; simp; omega
  have e4 : (s.extract 12 16).data.toList.length = 4 := by rw [ext_list]; simp; omega
  have b8 := be_gt (s.extract 4 12).data.toList
  have b4 := be_gt (s.extract 12 16).data.toList
  rw [e8] at b8
  rw [e4] at b4
  rw [b8, b4, be_one, UInt8.ofNat_toNat, ← h1, ext_list, ext_list]
  rw [← hl] at h
  generalize s.data.toList = l at *
  have s1 : l.take 16 = (l.take 12) ++ (l.drop 12).take 4 := by rw [← List.take_add]
  have s2 : l.take 12 = (l.take 4) ++ (l.drop 4).take 8 := by rw [← List.take_add]
  have s3 : l.take 4 = l.take 3 ++ [l.getD 3 0] := by
    rw [List.take_succ_eq_append_getElem (by omega)]
    simp [List.getD, List.getElem?_eq_getElem (show 3 < l.length by omega)]
  rw [s1, s2, s3]

/-- Do the first bytes stand as the frame that they tell? -/
def okS (s : ByteArray) : Prop := s.data.toList.take (lenN s + 20) = frameL (kindS s) (epS s) (bodyS s).data.toList
instance (s : ByteArray) : Decidable (okS s) := by unfold okS; infer_instance

theorem body_length (s : ByteArray) (h : lenN s + 20 ≤ s.size) : (bodyS s).data.toList.length = lenN s := by
  have hl : s.data.toList.length = s.size := by simp
  unfold bodyS; rw [ext_list]; simp; omega
theorem whole_eq (s : ByteArray) (h : lenN s + 20 ≤ s.size) (hp : preS s = true) : s.data.toList.take (lenN s + 16) = hdr (kindS s) (epS s) (lenN s) ++ (bodyS s).data.toList := by
  rw [← head_eq s (by omega) hp]
  unfold bodyS
  rw [ext_list, Nat.add_comm (lenN s) 16, List.take_add]
  congr 2
  omega
theorem ok_iff (s : ByteArray) (h : lenN s + 20 ≤ s.size) (hp : preS s = true) :
    okS s ↔ ((s.extract 0 (lenN s + 20)).extract (lenN s + 16) (s.extract 0 (lenN s + 20)).size).toList = le4 (crcV ((s.extract 0 (lenN s + 20)).extract 0 (lenN s + 16)).data.toList) := by
  have hl : s.data.toList.length = s.size := by simp
  have hsz : (s.extract 0 (lenN s + 20)).size = lenN s + 16 + 4 := by rw [ByteArray.size_extract]; omega
  rw [← mark_iff (s.extract 0 (lenN s + 20)) (lenN s + 16) hsz]
  have e1 : (s.extract 0 (lenN s + 20)).data.toList = s.data.toList.take (lenN s + 20) := by rw [ext_list]; simp
  have e2 : ((s.extract 0 (lenN s + 20)).extract 0 (lenN s + 16)).data.toList = s.data.toList.take (lenN s + 16) := by
    rw [ext_list, e1]; simp [List.take_take]
  rw [e1, e2, whole_eq s h hp]
  unfold okS frameL
  rw [body_length s h]
  exact eq_comm
theorem text_body (s : ByteArray) (h : lenN s + 20 ≤ s.size) :
    ((s.extract 0 (lenN s + 20)).extract 0 (lenN s + 16)).extract 16 ((s.extract 0 (lenN s + 20)).extract 0 (lenN s + 16)).size = bodyS s := by
  have hl : s.data.toList.length = s.size := by simp
  apply ByteArray.ext
  apply Array.ext'
  unfold bodyS
  have hsz : ((s.extract 0 (lenN s + 20)).extract 0 (lenN s + 16)).size = lenN s + 16 := by rw [ByteArray.size_extract, ByteArray.size_extract]; omega
  rw [hsz, ext_list, ext_list, ext_list, ext_list]
  simp [List.take_take, List.drop_take]

/-- The error. -/
def codeS (s : ByteArray) : Nat := if s.size < 20 then 3 else if preS s = false then 4 else if kindS s = 0 then 10 else if 8192 < lenN s then 5 else if s.size < lenN s + 20 then 3 else if okS s then 0 else 9
/-- What is read. -/
def rK (s : ByteArray) : Nat := if codeS s = 0 then kindS s else 0
def rE (s : ByteArray) : Nat := if codeS s = 0 then epS s else 0
def rB (s : ByteArray) : ByteArray := if codeS s = 0 then bodyS s else ⟨#[]⟩
def rR (s : ByteArray) : ByteArray := if codeS s = 0 then restS s else ⟨#[]⟩
/-- How many bytes. -/
def rN (s : ByteArray) : Nat := if codeS s = 0 then lenN s + 20 else 0
theorem code_ok {s : ByteArray} (h : codeS s = 0) : 20 ≤ s.size ∧ preS s = true ∧ 1 ≤ kindS s ∧ kindS s ≤ 255 ∧ lenN s ≤ 8192 ∧ lenN s + 20 ≤ s.size ∧ okS s := by
  have hk := kindS_lt s
  unfold codeS at h
  split at h
  · omega
  split at h
  · omega
  split at h
  · omega
  split at h
  · omega
  split at h
  · omega
  split at h
  · rename_i h1 h2 h3 h4 h5 h6
    exact ⟨by omega, by simpa using h2, by omega, by omega, by omega, by omega, h6⟩
  · omega
theorem r_bad {s : ByteArray} (h : codeS s ≠ 0) : rK s = 0 ∧ rE s = 0 ∧ rB s = ⟨#[]⟩ ∧ rR s = ⟨#[]⟩ ∧ rN s = 0 := by
  unfold rK rE rB rR rN
  rw [if_neg h, if_neg h, if_neg h, if_neg h, if_neg h]
  exact ⟨rfl, rfl, rfl, rfl, rfl⟩
theorem r_ok {s : ByteArray} (h : codeS s = 0) : rK s = kindS s ∧ rE s = epS s ∧ rB s = bodyS s ∧ rR s = restS s ∧ rN s = lenN s + 20 := by
  unfold rK rE rB rR rN
  rw [if_pos h, if_pos h, if_pos h, if_pos h, if_pos h]
  exact ⟨rfl, rfl, rfl, rfl, rfl⟩
end Go.Proofs.Ytdojepkmjifoeaa

namespace Go.Proofs.Ytdojepkmjifoeaa
open Go.RowKit

theorem awake2b_any (w : World) : Calls Try.prog 59 #[] w fun e w' => e = .returned (.bool true) ∧ Below w.heap.size w w' := by
  have hB := Below.refl w.heap.size w
  go_enter Try.func59, Try.ntmps59
  go_wp2_with (first
    | (go_at_call 79; go_must (refine (awake2_any _).mono ?_); rintro e w1 ⟨rfl, hb1⟩; replace hB := hB.trans (hb1.mono hB.size)))
  go_ret
  exact ⟨rfl, hB⟩
theorem awake8_any (w : World) : Calls Try.prog 38 #[] w fun e w' => e = .returned (.bool true) ∧ Below w.heap.size w w' := by
  have k1 := fun w => bytes_ok 1 0 ⟨#[]⟩ (by omega) (by omega) (by omega) (by decide) w
  have hL : (frameL 1 0 (⟨#[]⟩ : ByteArray).data.toList).length = 20 := by rw [frameL_length]; rfl
  generalize frameL 1 0 (⟨#[]⟩ : ByteArray).data.toList = M at *
  have hS : (str M).size = 20 := by rw [size_str, hL]
  have K1 := Lib.hid k1
  have K2 := Lib.hid (fun w => size_any 0 (by omega) w)
  clear k1 hL
  have hB := Below.refl w.heap.size w
  go_enter Try.func38, Try.ntmps38
  go_wp2_with (first
    | (go_at_call 21; go_must (refine (K1.out _).mono ?_); rintro e w1 ⟨rfl, hb1⟩; replace hB := hB.trans (hb1.mono hB.size))
    | (go_at_call 59; go_must (refine (awake2b_any _).mono ?_); rintro e w2 ⟨rfl, hb2⟩; replace hB := hB.trans (hb2.mono hB.size))
    | (go_at_call 60; go_must (refine (K2.out _).mono ?_); rintro e w3 ⟨rfl, rfl⟩))
  go_ret
  exact ⟨rfl, hB⟩

theorem number_any (s : ByteArray) (h1 : 1 ≤ s.size) (h2 : s.size ≤ 8) (w : World) : Calls Try.prog 69 #[.string s] w fun e w' => e = .returned (.int .u64 (gt s.data.toList)) ∧ w = w' := by
  have K1 := Lib.hid (fun w => get_ok s h1 h2 w)
  go_enter Try.func69, Try.ntmps69
  go_wp2_with (first
    | (go_at_call 84; go_must (refine (K1.out _).mono ?_); rintro e w1 ⟨rfl, rfl⟩))
  go_ret
  exact ⟨rfl, rfl⟩

/-- What reading answers. -/
def rdV (k e : Nat) (b r : ByteArray) (c : Nat) : Value := .tuple #[.agg #[.int .i64 (k : Int), .int .u64 (e : Int), .string b], .string r, .int .i64 (c : Int)]

/-- A block that holds a frame, and is the call's own. -/
def Frz (w : World) (g : Nat) (k e : Nat) (b : ByteArray) : Prop :=
  w.cell? ⟨g, 0, none⟩ = some (.int .i64 (k : Int)) ∧ w.cell? ⟨g, 1, none⟩ = some (.int .u64 (e : Int)) ∧ w.cell? ⟨g, 2, none⟩ = some (.string b) ∧ w.frozen? ⟨g, 0, none⟩ = false ∧ w.frozen? ⟨g, 1, none⟩ = false ∧ w.frozen? ⟨g, 2, none⟩ = false
theorem Frz.below {w w' : World} {B g : Nat} {k e : Nat} {b : ByteArray} (h : Frz w g k e b) (hb : Below B w w') (hg : g < B) : Frz w' g k e b := by
  obtain ⟨h0, h1, h2, f0, f1, f2⟩ := h
  exact ⟨(hb.cell (p := ⟨g, 0, none⟩) hg).trans h0, (hb.cell (p := ⟨g, 1, none⟩) hg).trans h1, (hb.cell (p := ⟨g, 2, none⟩) hg).trans h2, (hb.frozen (p := ⟨g, 0, none⟩) hg).trans f0, (hb.frozen (p := ⟨g, 1, none⟩) hg).trans f1, (hb.frozen (p := ⟨g, 2, none⟩) hg).trans f2⟩
theorem Frz.new (w : World) (k e : Nat) (b : ByteArray) : Frz (w.alloc (.cells #[.int .i64 (k : Int), .int .u64 (e : Int), .string b] 57)) w.heap.size k e b := by
  refine ⟨cell_new w _ 57 0, cell_new w _ 57 1, cell_new w _ 57 2, ?_, ?_, ?_⟩ <;> simp
theorem read_short (s : ByteArray) (hs : s.size < 20) (w : World) :
    Calls Try.prog 49 #[.string s] w fun r w' => r = .returned (rdV 0 0 ⟨#[]⟩ ⟨#[]⟩ 3) ∧ Below w.heap.size w w' := by
  go_enter Try.func49, Try.ntmps49
  go_wp2
  exact bodyPost_ret (v := rdV 0 0 ⟨#[]⟩ ⟨#[]⟩ 3) (by simp [results, Try.results49, go_sem, rdV]) rfl ⟨rfl, (Below.refl _ _).alloc (Nat.le_refl _) _⟩
theorem read_form (s : ByteArray) (hs : 20 ≤ s.size) (hp : preS s = false) (w : World) :
    Calls Try.prog 49 #[.string s] w fun r w' => r = .returned (rdV 0 0 ⟨#[]⟩ ⟨#[]⟩ 4) ∧ Below w.heap.size w w' := by
  have h20 : ¬ s.size < 20 := by omega
  have k1 := fun w => Try.strings_HasPrefix s ⟨#[79, 70, 1]⟩ w
  rw [show Lib.hasPrefix s.data.toList (⟨#[79, 70, 1]⟩ : ByteArray).data.toList = preS s from rfl, hp] at k1
  have K1 := Lib.hid k1
  clear k1 hp
  go_enter Try.func49, Try.ntmps49
  go_wp2_with fail
  refine (K1.out _).mono ?_
  rintro r w1 ⟨rfl, h⟩
  subst h
  go_wp2
  exact bodyPost_ret (v := rdV 0 0 ⟨#[]⟩ ⟨#[]⟩ 4) (by simp [results, Try.results49, go_sem, rdV]) rfl ⟨rfl, (Below.refl _ _).alloc (Nat.le_refl _) _⟩

/-- The prefix stands. -/
theorem pre_call (s : ByteArray) (hp : preS s = true) (w : World) : Calls Try.prog 68 #[.string s, .string ⟨#[79, 70, 1]⟩] w fun e w' => e = .returned (.bool true) ∧ w = w' := by
  have k1 := Try.strings_HasPrefix s ⟨#[79, 70, 1]⟩ w
  rw [show Lib.hasPrefix s.data.toList (⟨#[79, 70, 1]⟩ : ByteArray).data.toList = preS s from rfl, hp] at k1
  exact k1.mono fun e w' h => ⟨h.1, h.2.symm⟩
theorem kind_at (s : ByteArray) (h : 3 < s.size) : kindS s = s[3].toNat := by
  unfold kindS
  have h' : 3 < s.data.toList.length := by simpa using h
  rw [List.getD, List.getElem?_eq_getElem h']
  rfl

theorem read_kind (s : ByteArray) (hs : 20 ≤ s.size) (hp : preS s = true) (hk : kindS s = 0) (w : World) :
    Calls Try.prog 49 #[.string s] w fun r w' => r = .returned (rdV 0 0 ⟨#[]⟩ ⟨#[]⟩ 10) ∧ Below w.heap.size w w' := by
  have h20 : ¬ s.size < 20 := by omega
  have h3 : 3 < s.size := by omega
  have hz : ((s[3].toNat : Int) == 0) = true := by rw [← kind_at s h3, hk]; rfl
  have K1 := Lib.hid (pre_call s hp)
  clear hk hp
  go_enter Try.func49, Try.ntmps49
  go_wp2_with fail
  refine (K1.out _).mono ?_
  rintro r w1 ⟨rfl, rfl⟩
  go_wp2
  exact bodyPost_ret (v := rdV 0 0 ⟨#[]⟩ ⟨#[]⟩ 10) (by simp [results, Try.results49, go_sem, rdV]) rfl ⟨rfl, (Below.refl _ _).alloc (Nat.le_refl _) _⟩

theorem num_call (s : ByteArray) (hs : 20 ≤ s.size) (n : Nat) (hn : lenN s = n) (w : World) : Calls Try.prog 69 #[.string (s.extract 12 16)] w fun e w' => e = .returned (.int .u64 (n : Int)) ∧ w = w' := by
  subst hn
  exact number_any (s.extract 12 16) (by rw [ByteArray.size_extract]; omega) (by rw [ByteArray.size_extract]; omega) w
theorem ep_call (s : ByteArray) (hs : 20 ≤ s.size) (n : Nat) (hn : epS s = n) (w : World) : Calls Try.prog 69 #[.string (s.extract 4 12)] w fun e w' => e = .returned (.int .u64 (n : Int)) ∧ w = w' := by
  subst hn
  exact number_any (s.extract 4 12) (by rw [ByteArray.size_extract]; omega) (by rw [ByteArray.size_extract]; omega) w

theorem read_long (s : ByteArray) (hs : 20 ≤ s.size) (hp : preS s = true) (hk : kindS s ≠ 0) (hn : 8192 < lenN s) (w : World) :
    Calls Try.prog 49 #[.string s] w fun r w' => r = .returned (rdV 0 0 ⟨#[]⟩ ⟨#[]⟩ 5) ∧ Below w.heap.size w w' := by
  have h20 : ¬ s.size < 20 := by omega
  have h3 : 3 < s.size := by omega
  have hz : ((s[3].toNat : Int) == 0) = false := by rw [← kind_at s h3, beq_eq_false_iff_ne]; omega
  have K1 := Lib.hid (pre_call s hp)
  have K2 := Lib.hid (num_call s hs _ rfl)
  generalize lenN s = n at *
  clear hk hp
  go_enter Try.func49, Try.ntmps49
  go_wp2_with fail
  refine (K1.out _).mono ?_
  rintro r w1 ⟨rfl, rfl⟩
  go_wp2_with fail
  refine (K2.out _).mono ?_
  rintro r w1 ⟨rfl, rfl⟩
  go_wp2
  exact bodyPost_ret (v := rdV 0 0 ⟨#[]⟩ ⟨#[]⟩ 5) (by simp [results, Try.results49, go_sem, rdV]) rfl ⟨rfl, (Below.refl _ _).alloc (Nat.le_refl _) _⟩

theorem read_cut (s : ByteArray) (hs : 20 ≤ s.size) (hp : preS s = true) (hk : kindS s ≠ 0) (hn : lenN s ≤ 8192) (hc : s.size < lenN s + 20) (w : World) :
    Calls Try.prog 49 #[.string s] w fun r w' => r = .returned (rdV 0 0 ⟨#[]⟩ ⟨#[]⟩ 3) ∧ Below w.heap.size w w' := by
  have h20 : ¬ s.size < 20 := by omega
  have h3 : 3 < s.size := by omega
  have hz : ((s[3].toNat : Int) == 0) = false := by rw [← kind_at s h3, beq_eq_false_iff_ne]; omega
  have K1 := Lib.hid (pre_call s hp)
  have K2 := Lib.hid (num_call s hs _ rfl)
  generalize lenN s = n at *
  have K3 := Lib.hid (fun w => size_any n (by omega) w)
  clear hk hp
  go_enter Try.func49, Try.ntmps49
  go_wp2_with fail
  refine (K1.out _).mono ?_
  rintro r w1 ⟨rfl, rfl⟩
  go_wp2_with fail
  refine (K2.out _).mono ?_
  rintro r w1 ⟨rfl, rfl⟩
  go_wp2_with fail
  refine (K3.out _).mono ?_
  rintro r w1 ⟨rfl, rfl⟩
  go_wp2
  exact bodyPost_ret (v := rdV 0 0 ⟨#[]⟩ ⟨#[]⟩ 3) (by simp [results, Try.results49, go_sem, rdV]) rfl ⟨rfl, (Below.refl _ _).alloc (Nat.le_refl _) _⟩

theorem read_sum (s : ByteArray) (hs : 20 ≤ s.size) (hp : preS s = true) (hk : kindS s ≠ 0) (hn : lenN s ≤ 8192) (hc : lenN s + 20 ≤ s.size) (hm : ¬ okS s) (hmax : s.size ≤ 1000000000) (w : World) :
    Calls Try.prog 49 #[.string s] w fun r w' => r = .returned (rdV 0 0 ⟨#[]⟩ ⟨#[]⟩ 9) ∧ Below w.heap.size w w' := by
  have h20 : ¬ s.size < 20 := by omega
  have h3 : 3 < s.size := by omega
  have hz : ((s[3].toNat : Int) == 0) = false := by rw [← kind_at s h3, beq_eq_false_iff_ne]; omega
  have hps : (s.extract 0 (lenN s + 20)).size = lenN s + 16 + 4 := by rw [ByteArray.size_extract]; omega
  have K1 := Lib.hid (pre_call s hp)
  have K2 := Lib.hid (num_call s hs _ rfl)
  have k4 := fun w => check_bad (s.extract 0 (lenN s + 20)) w (lenN s + 16) hps (by omega) (fun h => hm ((ok_iff s hc hp).2 h))
  clear hm hps
  generalize lenN s = n at *
  have K3 := Lib.hid (fun w => size_any n (by omega) w)
  have hc' : ¬ s.size < n + 20 := by omega
  generalize hq : n + 20 = q at *
  have HQ := Lib.hid hq
  have K4 := Lib.hid k4
  clear hk hp k4 hq
  go_enter Try.func49, Try.ntmps49
  go_wp2_with fail
  refine (K1.out _).mono ?_
  rintro r w1 ⟨rfl, rfl⟩
  go_wp2_with fail
  refine (K2.out _).mono ?_
  rintro r w1 ⟨rfl, rfl⟩
  go_wp2_with fail
  refine (K3.out _).mono ?_
  rintro r w1 ⟨rfl, rfl⟩
  go_wp2_with fail
  refine (K4.out _).mono ?_
  rintro r w2 ⟨rfl, hb2⟩
  obtain ⟨w0, hw0⟩ : ∃ w0, w0 = w.alloc (.cells #[.int .i64 0, .int .u64 0, .string ⟨#[]⟩] 57) := ⟨_, rfl⟩
  rw [← hw0] at hb2
  have hB : Below w.heap.size w w0 := by rw [hw0]; exact (Below.refl _ _).alloc (Nat.le_refl _) _
  have hlt : w.heap.size < w0.heap.size := by rw [hw0]; simp
  have hF : Frz w0 w.heap.size 0 0 ⟨#[]⟩ := by rw [hw0]; exact Frz.new _ _ _ _
  have HB2 := Lib.hid (hB.trans (hb2.mono hB.size))
  obtain ⟨c0, c1, c2, f0, f1, f2⟩ := hF.below hb2 hlt
  clear hB hF hlt hb2 hw0
  go_wp2
  exact bodyPost_ret (v := rdV 0 0 ⟨#[]⟩ ⟨#[]⟩ 9) (by simp [results, Try.results49, go_sem, rdV, *]) rfl ⟨rfl, ((HB2.out.setCell (Nat.le_refl _) _).setCell (Nat.le_refl _) _).setCell (Nat.le_refl _) _⟩
end Go.Proofs.Ytdojepkmjifoeaa
