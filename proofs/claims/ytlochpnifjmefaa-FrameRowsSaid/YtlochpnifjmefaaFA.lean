/- Frames: how they stand as bytes; Size, number, a frame's Bytes, the awake example. -/
import Derived.Test.YtlochpnifjmefaaY
import Derived.Test.YtlochpnifjmefaaH
import Derived.Test.YtlochpnifjmefaaI
namespace Go.Proofs.Ytlochpnifjmefaa
open Go.RowKit

/-- The first sixteen bytes of a frame. -/
def hdr (k e n : Nat) : List UInt8 := [79, 70, 1] ++ be k 1 ++ be e 8 ++ be n 4
/-- A frame's bytes. -/
def frameL (k e : Nat) (b : List UInt8) : List UInt8 := markL (hdr k e b.length ++ b)
theorem hdr_length (k e n : Nat) : (hdr k e n).length = 16 := by simp [hdr, be_length]
theorem frameL_length (k e : Nat) (b : List UInt8) : (frameL k e b).length = b.length + 20 := by
  simp [frameL, markL, hdr_length, le4_length]; omega

theorem run_add_bytes (a b : List UInt8) (h : a.length + b.length ≤ 1000000000) (W : World) : (Op.stringOp .add (str a) (str b)).run Try.prog W = .ok (.string (str (a ++ b))) W := run_str_add a b h W

theorem size_any (n : Nat) (hn : n ≤ 1000000000) (w : World) : Calls Try.prog 27 #[.int .i64 n] w fun e w' => e = .returned (.int .i64 (n + 20 : Nat)) ∧ w = w' := by
  go_enter Try.func27, Try.ntmps27
  go_wp2
  go_ret
  refine ⟨?_, rfl⟩
  have h : min (n : Int) 9223372036854775787 + 20 = ((n + 20 : Nat) : Int) := by omega
  exact congrArg (fun z => Ending.returned (.int .i64 z)) h

/-- A block that holds a frame. -/
def Fr (w : World) (g : Nat) (k : Int) (e : Nat) (b : ByteArray) : Prop :=
  w.cell? ⟨g, 0, none⟩ = some (.int .i64 k) ∧ w.cell? ⟨g, 1, none⟩ = some (.int .u64 (e : Int)) ∧ w.cell? ⟨g, 2, none⟩ = some (.string b)
theorem Fr.below {w w' : World} {B g : Nat} {k : Int} {e : Nat} {b : ByteArray} (h : Fr w g k e b) (hb : Below B w w') (hg : g < B) : Fr w' g k e b := by
  obtain ⟨h0, h1, h2⟩ := h
  exact ⟨(hb.cell (p := ⟨g, 0, none⟩) hg).trans h0, (hb.cell (p := ⟨g, 1, none⟩) hg).trans h1, (hb.cell (p := ⟨g, 2, none⟩) hg).trans h2⟩
theorem Fr.new (w : World) (k : Int) (e : Nat) (b : ByteArray) : Fr (w.alloc (.cells #[.int .i64 k, .int .u64 (e : Int), .string b] 51)) w.heap.size k e b :=
  ⟨cell_new w _ 51 0, cell_new w _ 51 1, cell_new w _ 51 2⟩

theorem bytes_kind (k : Int) (e : Nat) (b : ByteArray) (hk : k < 1 ∨ 255 < k) (w : World) :
    Calls Try.prog 23 #[.agg #[.int .i64 k, .int .u64 e, .string b]] w fun r w' => r = .returned (.tuple #[.string ⟨#[]⟩, .int .i64 10]) ∧ Below w.heap.size w w' := by
  rcases hk with hk | hk
  · go_enter Try.func23, Try.ntmps23
    go_wp2
    go_ret2
    exact ⟨rfl, (Below.refl _ _).alloc (Nat.le_refl _) _⟩
  · have hk' : ¬ k < 1 := by omega
    go_enter Try.func23, Try.ntmps23
    go_wp2
    go_ret2
    exact ⟨rfl, (Below.refl _ _).alloc (Nat.le_refl _) _⟩
theorem bytes_long (k : Int) (e : Nat) (b : ByteArray) (h1 : 1 ≤ k) (h2 : k ≤ 255) (hb : 8192 < b.size) (w : World) :
    Calls Try.prog 23 #[.agg #[.int .i64 k, .int .u64 e, .string b]] w fun r w' => r = .returned (.tuple #[.string ⟨#[]⟩, .int .i64 5]) ∧ Below w.heap.size w w' := by
  have h1' : ¬ k < 1 := by omega
  go_enter Try.func23, Try.ntmps23
  go_wp2
  go_ret2
  exact ⟨rfl, (Below.refl _ _).alloc (Nat.le_refl _) _⟩

set_option maxHeartbeats 1000000 in
theorem bytes_ok (k e : Nat) (b : ByteArray) (h1 : 1 ≤ k) (h2 : k ≤ 255) (he : e ≤ 18446744073709551615) (hb : b.size ≤ 8192) (w : World) :
    Calls Try.prog 23 #[.agg #[.int .i64 k, .int .u64 e, .string b]] w fun r w' => r = .returned (.tuple #[.string (str (frameL k e b.data.toList)), .int .i64 0]) ∧ Below w.heap.size w w' := by
  have k1 := fun w => put_any k 1 (by omega) w
  have k2 := fun w => put_any e 8 he w
  have k3 := fun w => put_any b.size 4 (by omega) w
  rw [show clip 1 = 1 from rfl] at k1
  rw [show clip 8 = 8 from rfl] at k2
  rw [show clip 4 = 4 from rfl] at k3
  have l1 := be_length k 1
  have l2 := be_length e 8
  have l3 := be_length b.size 4
  have hF : frameL k e b.data.toList = markL ([79, 70, 1] ++ be k 1 ++ be e 8 ++ be b.size 4 ++ b.data.toList) := by
    unfold frameL hdr; simp
  rw [hF]
  clear hF
  have hk' : ¬ (k : Int) < 1 := by omega
  generalize be k 1 = d1 at *
  generalize be e 8 = d2 at *
  generalize be b.size 4 = d3 at *
  have a1 : ∀ W, (Op.stringOp .add ⟨#[79, 70, 1]⟩ (str d1)).run Try.prog W = .ok (.string (str ([79, 70, 1] ++ d1))) W := fun W => run_add_bytes [79, 70, 1] d1 (by simp; omega) W
  have a2 := fun W => run_add_bytes ([79, 70, 1] ++ d1) d2 (by simp; omega) W
  have a3 := fun W => run_add_bytes ([79, 70, 1] ++ d1 ++ d2) d3 (by simp; omega) W
  have a4 : ∀ W, (Op.stringOp .add (str ([79, 70, 1] ++ d1 ++ d2 ++ d3)) b).run Try.prog W = .ok (.string (str ([79, 70, 1] ++ d1 ++ d2 ++ d3 ++ b.data.toList))) W := by
    intro W
    have := run_add_bytes ([79, 70, 1] ++ d1 ++ d2 ++ d3) b.data.toList (by simp; omega) W
    rw [str_data] at this
    exact this
  have hM : ([79, 70, 1] ++ d1 ++ d2 ++ d3 ++ b.data.toList).length ≤ 10000 := by simp; omega
  generalize [79, 70, 1] ++ d1 = e1 at *
  generalize e1 ++ d2 = e2 at *
  generalize e2 ++ d3 = e3 at *
  generalize e3 ++ b.data.toList = e4 at *
  have k4 := fun w => mark_any (str e4) w (by rw [size_str]; omega)
  rw [data_str] at k4
  generalize markL e4 = M at *
  clear hM l1 l2 l3 he
  have K1 := Lib.hid k1
  have K2 := Lib.hid k2
  have K3 := Lib.hid k3
  have K4 := Lib.hid k4
  clear k1 k2 k3 k4
  obtain ⟨w0, hw0⟩ : ∃ w0, w0 = w.alloc (.cells #[.int .i64 (k : Int), .int .u64 (e : Int), .string b] 51) := ⟨_, rfl⟩
  have hB : Below w.heap.size w w0 := by rw [hw0]; exact (Below.refl _ _).alloc (Nat.le_refl _) _
  have hlt : w.heap.size < w0.heap.size := by rw [hw0]; simp
  have hF : Fr w0 w.heap.size k e b := by rw [hw0]; exact Fr.new _ _ _ _
  have HB := Lib.hid hB
  have HF := Lib.hid hF
  have HLT := Lib.hid hlt
  clear hB hF hlt
  go_enter Try.func23, Try.ntmps23
  go_wp2_with fail
  rw [← hw0]
  have hW := Lib.hid hw0
  clear hw0
  refine (K1.out _).mono ?_
  rintro r w1 ⟨rfl, hb1⟩
  have HB1 := Lib.hid (HB.out.trans (hb1.mono HB.out.size))
  have HF1 := Lib.hid (HF.out.below hb1 HLT.out)
  have HL1 := Lib.hid (Nat.lt_of_lt_of_le HLT.out hb1.size)
  obtain ⟨c0, c1, c2⟩ := HF1.out
  clear hb1
  go_wp2_with fail
  clear c0 c1 c2
  refine (K2.out _).mono ?_
  rintro r w2 ⟨rfl, hb2⟩
  have HB2 := Lib.hid (HB1.out.trans (hb2.mono HB1.out.size))
  have HF2 := Lib.hid (HF1.out.below hb2 HL1.out)
  have HL2 := Lib.hid (Nat.lt_of_lt_of_le HL1.out hb2.size)
  obtain ⟨c0, c1, c2⟩ := HF2.out
  clear hb2
  go_wp2_with fail
  clear c0 c1 c2
  refine (K3.out _).mono ?_
  rintro r w3 ⟨rfl, hb3⟩
  have HB3 := Lib.hid (HB2.out.trans (hb3.mono HB2.out.size))
  have HF3 := Lib.hid (HF2.out.below hb3 HL2.out)
  obtain ⟨c0, c1, c2⟩ := HF3.out
  clear hb3
  go_wp2_with fail
  refine (K4.out _).mono ?_
  rintro r w4 ⟨rfl, hb4⟩
  go_wp2
  go_ret2
  exact ⟨rfl, HB3.out.trans (hb4.mono HB3.out.size)⟩
end Go.Proofs.Ytlochpnifjmefaa
