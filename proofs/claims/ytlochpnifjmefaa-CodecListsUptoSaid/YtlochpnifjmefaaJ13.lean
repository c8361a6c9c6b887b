/- Walk of the law FrameBytes: frames that may not be.; Values of the codec: trees, and how they lie in memory. -/
import Derived.Test.YtlochpnifjmefaaJ12
set_option linter.unusedVariables false
set_option linter.unusedSimpArgs false
namespace Go.Proofs.Ytlochpnifjmefaa
open Go.RowKit

/-- Three cells of a block. -/
theorem three_below {w w' : World} {B g : Nat} {a b c : Value} (h : w.cell? ⟨g, 0, none⟩ = some a ∧ w.cell? ⟨g, 1, none⟩ = some b ∧ w.cell? ⟨g, 2, none⟩ = some c) (hb : Below B w w') (hg : g < B) : w'.cell? ⟨g, 0, none⟩ = some a ∧ w'.cell? ⟨g, 1, none⟩ = some b ∧ w'.cell? ⟨g, 2, none⟩ = some c :=
  ⟨(hb.cell (p := ⟨g, 0, none⟩) hg).trans h.1, (hb.cell (p := ⟨g, 1, none⟩) hg).trans h.2.1, (hb.cell (p := ⟨g, 2, none⟩) hg).trans h.2.2⟩
theorem three_new (w : World) (a b c : Value) (t : Nat) : (w.alloc (.cells #[a, b, c] t)).cell? ⟨w.heap.size, 0, none⟩ = some a ∧ (w.alloc (.cells #[a, b, c] t)).cell? ⟨w.heap.size, 1, none⟩ = some b ∧ (w.alloc (.cells #[a, b, c] t)).cell? ⟨w.heap.size, 2, none⟩ = some c :=
  ⟨cell_new w _ t 0, cell_new w _ t 1, cell_new w _ t 2⟩
theorem alloc_below (w : World) (o : Obj) : Below w.heap.size w (w.alloc o) := (Below.refl _ _).alloc (Nat.le_refl _) _
theorem alloc_lt (w : World) (o : Obj) : w.heap.size < (w.alloc o).heap.size := by simp

set_option maxRecDepth 100000 in
set_option maxHeartbeats 1000000 in
theorem fb_no_bad (k : Int) (e : Nat) (b s t : ByteArray) (c0 : Nat) (hb : b.size ≤ 9000) (hs : s.size ≤ 9000) (hc0 : c0 ≠ 0) (c : Nat) (hc : c ≠ 0)
    (k1' : ∀ w, Calls Try.prog 23 #[.agg #[.int .i64 k, .int .u64 e, .string b]] w fun r w' => r = .returned (.tuple #[.string t, .int .i64 c0]) ∧ Below w.heap.size w w')
    (k2' : ∀ w, Calls Try.prog 24 #[.agg #[.int .i64 k, .int .u64 e, .string b]] w fun r w' => r = .returned (.tuple #[.string t, .int .i64 c0]) ∧ Below w.heap.size w w')
    (k3 : ∀ w, Calls Try.prog 25 #[.string s] w fun r w' => r = .returned (rdV 0 0 ⟨#[]⟩ ⟨#[]⟩ c) ∧ Below w.heap.size w w')
    (k4 : ∀ w, Calls Try.prog 26 #[.string s] w fun r w' => r = .returned (paV 0 0 ⟨#[]⟩ c) ∧ Below w.heap.size w w')
    (k5 : ∀ w, Calls Try.prog 28 #[.string s] w fun r w' => r = .returned (rnV 0 0 ⟨#[]⟩ 0 c) ∧ Below w.heap.size w w') (w : World) :
    Calls Try.prog 5 #[.agg #[.int .i64 k, .int .u64 e, .string b], .string s] w fun e w' => e = .returned (.bool true) ∧ Below w.heap.size w w' := by
  have K1 := Lib.hid k1'
  have K2 := Lib.hid k2'
  have K3 := Lib.hid k3
  have K4 := Lib.hid k4
  have K5 := Lib.hid k5
  have hq0 : ((c0 : Int) == 0) = false := by rw [beq_eq_false_iff_ne]; omega
  have hmx : ¬ (max (b.size : Int) (s.size : Int) > 9000) := by omega
  have hq : ((c : Int) != 0) = true := by rw [bne_iff_ne]; omega
  clear hc
  clear k1' k2' k3 k4 k5 hc0
  obtain ⟨w0, hw0⟩ : ∃ w0, w0 = w.alloc (.cells #[.int .i64 (k : Int), .int .u64 (e : Int), .string b] 51) := ⟨_, rfl⟩
  have HB := Lib.hid (show Below w.heap.size w w0 by rw [hw0]; exact alloc_below _ _)
  have HF := Lib.hid (show Fr w0 w.heap.size k e b by rw [hw0]; exact Fr.new _ _ _ _)
  have HLT := Lib.hid (show w.heap.size < w0.heap.size by rw [hw0]; exact alloc_lt _ _)
  go_enter Try.func5, Try.ntmps5
  go_wp2_with fail
  rw [← hw0]
  clear hw0
  refine (awake8_any _).mono ?_
  rintro r w1 ⟨rfl, hb1⟩
  have HB1 := Lib.hid (HB.out.trans (hb1.mono HB.out.size))
  have HF1 := Lib.hid (HF.out.below hb1 HLT.out)
  have HL1 := Lib.hid (Nat.lt_of_lt_of_le HLT.out hb1.size)
  obtain ⟨f0, f1, f2⟩ := HF1.out
  clear hb1
  go_wp2_with fail
  refine (K1.out _).mono ?_
  rintro r w2 ⟨rfl, hb2⟩
  have HB2 := Lib.hid (HB1.out.trans (hb2.mono HB1.out.size))
  have HF2 := Lib.hid (HF1.out.below hb2 HL1.out)
  have HL2 := Lib.hid (Nat.lt_of_lt_of_le HL1.out hb2.size)
  clear f0 f1 f2
  obtain ⟨f0, f1, f2⟩ := HF2.out
  clear hb2
  go_wp2_with fail
  refine (K2.out _).mono ?_
  rintro r w3 ⟨rfl, hb3⟩
  have HB3 := Lib.hid (HB2.out.trans (hb3.mono HB2.out.size))
  clear f0 f1 f2 hb3
  go_wp2_with fail
  refine (K3.out _).mono ?_
  rintro r w4 ⟨rfl, hb4⟩
  have HB4 := Lib.hid (HB3.out.trans (hb4.mono HB3.out.size))
  clear hb4
  unfold rdV
  go_wp2_with fail
  obtain ⟨wa, hwa⟩ : ∃ wa, wa = w4.alloc (.cells #[.int .i64 0, .int .u64 0, .string ⟨#[]⟩] 51) := ⟨_, rfl⟩
  rw [← hwa]
  have HX : Hid (wa.cell? ⟨w4.heap.size, 0, none⟩ = some (.int .i64 0) ∧ wa.cell? ⟨w4.heap.size, 1, none⟩ = some (.int .u64 0) ∧ wa.cell? ⟨w4.heap.size, 2, none⟩ = some (.string ⟨#[]⟩)) := Lib.hid (by rw [hwa]; exact three_new _ _ _ _ _)
  have HBa := Lib.hid (HB4.out.trans ((show Below w4.heap.size w4 wa by rw [hwa]; exact alloc_below _ _).mono HB4.out.size))
  have HLa := Lib.hid (show w4.heap.size < wa.heap.size by rw [hwa]; exact alloc_lt _ _)
  clear hwa
  refine (K4.out _).mono ?_
  rintro r w5 ⟨rfl, hb5⟩
  have HB5 := Lib.hid (HBa.out.trans (hb5.mono HBa.out.size))
  have HX5 := Lib.hid (three_below HX.out hb5 HLa.out)
  have HLx5 := Lib.hid (Nat.lt_of_lt_of_le HLa.out hb5.size)
  clear hb5
  unfold paV
  go_wp2_with fail
  obtain ⟨wb, hwb⟩ : ∃ wb, wb = w5.alloc (.cells #[.int .i64 0, .int .u64 0, .string ⟨#[]⟩] 51) := ⟨_, rfl⟩
  rw [← hwb]
  have hbb : Below w5.heap.size w5 wb := by rw [hwb]; exact alloc_below _ _
  have HY : Hid (wb.cell? ⟨w5.heap.size, 0, none⟩ = some (.int .i64 0) ∧ wb.cell? ⟨w5.heap.size, 1, none⟩ = some (.int .u64 0) ∧ wb.cell? ⟨w5.heap.size, 2, none⟩ = some (.string ⟨#[]⟩)) := Lib.hid (by rw [hwb]; exact three_new _ _ _ _ _)
  have HXb := Lib.hid (three_below HX5.out hbb HLx5.out)
  have HBb := Lib.hid (HB5.out.trans (hbb.mono HB5.out.size))
  have HLy := Lib.hid (show w5.heap.size < wb.heap.size by rw [hwb]; exact alloc_lt _ _)
  have HLxb := Lib.hid (Nat.lt_of_lt_of_le HLx5.out hbb.size)
  clear hwb hbb
  refine (K5.out _).mono ?_
  rintro r w6 ⟨rfl, hb6⟩
  have HB6 := Lib.hid (HBb.out.trans (hb6.mono HBb.out.size))
  have HX6 := Lib.hid (three_below HXb.out hb6 HLxb.out)
  have HY6 := Lib.hid (three_below HY.out hb6 HLy.out)
  have HLx6 := Lib.hid (Nat.lt_of_lt_of_le HLxb.out hb6.size)
  have HLy6 := Lib.hid (Nat.lt_of_lt_of_le HLy.out hb6.size)
  clear hb6
  have hbc : Below w6.heap.size w6 (w6.alloc (.cells #[.int .i64 0, .int .u64 0, .string ⟨#[]⟩] 54)) := alloc_below _ _
  have HBc := Lib.hid (HB6.out.trans (hbc.mono HB6.out.size))
  obtain ⟨x0, x1, x2⟩ : (w6.alloc (.cells #[.int .i64 0, .int .u64 0, .string ⟨#[]⟩] 54)).cell? ⟨w4.heap.size, 0, none⟩ = some (.int .i64 0) ∧ (w6.alloc (.cells #[.int .i64 0, .int .u64 0, .string ⟨#[]⟩] 54)).cell? ⟨w4.heap.size, 1, none⟩ = some (.int .u64 0) ∧ (w6.alloc (.cells #[.int .i64 0, .int .u64 0, .string ⟨#[]⟩] 54)).cell? ⟨w4.heap.size, 2, none⟩ = some (.string ⟨#[]⟩) := three_below HX6.out hbc HLx6.out
  obtain ⟨y0, y1, y2⟩ : (w6.alloc (.cells #[.int .i64 0, .int .u64 0, .string ⟨#[]⟩] 54)).cell? ⟨w5.heap.size, 0, none⟩ = some (.int .i64 0) ∧ (w6.alloc (.cells #[.int .i64 0, .int .u64 0, .string ⟨#[]⟩] 54)).cell? ⟨w5.heap.size, 1, none⟩ = some (.int .u64 0) ∧ (w6.alloc (.cells #[.int .i64 0, .int .u64 0, .string ⟨#[]⟩] 54)).cell? ⟨w5.heap.size, 2, none⟩ = some (.string ⟨#[]⟩) := three_below HY6.out hbc HLy6.out
  obtain ⟨z0, z1, z2⟩ : (w6.alloc (.cells #[.int .i64 0, .int .u64 0, .string ⟨#[]⟩] 54)).cell? ⟨w6.heap.size, 0, none⟩ = some (.int .i64 0) ∧ (w6.alloc (.cells #[.int .i64 0, .int .u64 0, .string ⟨#[]⟩] 54)).cell? ⟨w6.heap.size, 1, none⟩ = some (.int .u64 0) ∧ (w6.alloc (.cells #[.int .i64 0, .int .u64 0, .string ⟨#[]⟩] 54)).cell? ⟨w6.heap.size, 2, none⟩ = some (.string ⟨#[]⟩) := three_new _ _ _ _ _
  clear hbc
  clear HB HB1 HF1 HL1 HB2 HF2 HL2 HX HX5 HXb HY HX6 HY6
  unfold rnV
  go_wp2
  go_ret
  exact ⟨rfl, HBc.out⟩

set_option maxRecDepth 100000 in
set_option maxHeartbeats 1000000 in
theorem fb_no_more (k : Int) (e : Nat) (b s t : ByteArray) (c0 : Nat) (hb : b.size ≤ 9000) (hs : s.size ≤ 9000) (hc0 : c0 ≠ 0) (k1 e1 n : Nat) (b1 : ByteArray) (hn : n < s.size)
    (k1' : ∀ w, Calls Try.prog 23 #[.agg #[.int .i64 k, .int .u64 e, .string b]] w fun r w' => r = .returned (.tuple #[.string t, .int .i64 c0]) ∧ Below w.heap.size w w')
    (k2' : ∀ w, Calls Try.prog 24 #[.agg #[.int .i64 k, .int .u64 e, .string b]] w fun r w' => r = .returned (.tuple #[.string t, .int .i64 c0]) ∧ Below w.heap.size w w')
    (k3 : ∀ w, Calls Try.prog 25 #[.string s] w fun r w' => r = .returned (rdV k1 e1 b1 (s.extract n s.size) 0) ∧ Below w.heap.size w w')
    (k4 : ∀ w, Calls Try.prog 26 #[.string s] w fun r w' => r = .returned (paV 0 0 ⟨#[]⟩ 4) ∧ Below w.heap.size w w')
    (k5 : ∀ w, Calls Try.prog 28 #[.string s] w fun r w' => r = .returned (rnV k1 e1 b1 n 0) ∧ Below w.heap.size w w') (w : World) :
    Calls Try.prog 5 #[.agg #[.int .i64 k, .int .u64 e, .string b], .string s] w fun e w' => e = .returned (.bool true) ∧ Below w.heap.size w w' := by
  have K1 := Lib.hid k1'
  have K2 := Lib.hid k2'
  have K3 := Lib.hid k3
  have K4 := Lib.hid k4
  have K5 := Lib.hid k5
  have hq0 : ((c0 : Int) == 0) = false := by rw [beq_eq_false_iff_ne]; omega
  have hmx : ¬ (max (b.size : Int) (s.size : Int) > 9000) := by omega
  have hnz : (n : Int) < (s.size : Int) := by omega
  have hn0 : (0 : Int) ≤ (n : Int) := by omega
  have hnle : (n : Int) ≤ (s.size : Int) := by omega
  clear k1' k2' k3 k4 k5 hc0
  obtain ⟨w0, hw0⟩ : ∃ w0, w0 = w.alloc (.cells #[.int .i64 (k : Int), .int .u64 (e : Int), .string b] 51) := ⟨_, rfl⟩
  have HB := Lib.hid (show Below w.heap.size w w0 by rw [hw0]; exact alloc_below _ _)
  have HF := Lib.hid (show Fr w0 w.heap.size k e b by rw [hw0]; exact Fr.new _ _ _ _)
  have HLT := Lib.hid (show w.heap.size < w0.heap.size by rw [hw0]; exact alloc_lt _ _)
  go_enter Try.func5, Try.ntmps5
  go_wp2_with fail
  rw [← hw0]
  clear hw0
  refine (awake8_any _).mono ?_
  rintro r w1 ⟨rfl, hb1⟩
  have HB1 := Lib.hid (HB.out.trans (hb1.mono HB.out.size))
  have HF1 := Lib.hid (HF.out.below hb1 HLT.out)
  have HL1 := Lib.hid (Nat.lt_of_lt_of_le HLT.out hb1.size)
  obtain ⟨f0, f1, f2⟩ := HF1.out
  clear hb1
  go_wp2_with fail
  refine (K1.out _).mono ?_
  rintro r w2 ⟨rfl, hb2⟩
  have HB2 := Lib.hid (HB1.out.trans (hb2.mono HB1.out.size))
  have HF2 := Lib.hid (HF1.out.below hb2 HL1.out)
  have HL2 := Lib.hid (Nat.lt_of_lt_of_le HL1.out hb2.size)
  clear f0 f1 f2
  obtain ⟨f0, f1, f2⟩ := HF2.out
  clear hb2
  go_wp2_with fail
  refine (K2.out _).mono ?_
  rintro r w3 ⟨rfl, hb3⟩
  have HB3 := Lib.hid (HB2.out.trans (hb3.mono HB2.out.size))
  clear f0 f1 f2 hb3
  go_wp2_with fail
  refine (K3.out _).mono ?_
  rintro r w4 ⟨rfl, hb4⟩
  have HB4 := Lib.hid (HB3.out.trans (hb4.mono HB3.out.size))
  clear hb4
  unfold rdV
  go_wp2_with fail
  obtain ⟨wa, hwa⟩ : ∃ wa, wa = w4.alloc (.cells #[.int .i64 (k1 : Int), .int .u64 (e1 : Int), .string b1] 51) := ⟨_, rfl⟩
  rw [← hwa]
  have HX : Hid (wa.cell? ⟨w4.heap.size, 0, none⟩ = some (.int .i64 (k1 : Int)) ∧ wa.cell? ⟨w4.heap.size, 1, none⟩ = some (.int .u64 (e1 : Int)) ∧ wa.cell? ⟨w4.heap.size, 2, none⟩ = some (.string b1)) := Lib.hid (by rw [hwa]; exact three_new _ _ _ _ _)
  have HBa := Lib.hid (HB4.out.trans ((show Below w4.heap.size w4 wa by rw [hwa]; exact alloc_below _ _).mono HB4.out.size))
  have HLa := Lib.hid (show w4.heap.size < wa.heap.size by rw [hwa]; exact alloc_lt _ _)
  clear hwa
  refine (K4.out _).mono ?_
  rintro r w5 ⟨rfl, hb5⟩
  have HB5 := Lib.hid (HBa.out.trans (hb5.mono HBa.out.size))
  have HX5 := Lib.hid (three_below HX.out hb5 HLa.out)
  have HLx5 := Lib.hid (Nat.lt_of_lt_of_le HLa.out hb5.size)
  clear hb5
  unfold paV
  go_wp2_with fail
  obtain ⟨wb, hwb⟩ : ∃ wb, wb = w5.alloc (.cells #[.int .i64 0, .int .u64 0, .string ⟨#[]⟩] 51) := ⟨_, rfl⟩
  rw [← hwb]
  have hbb : Below w5.heap.size w5 wb := by rw [hwb]; exact alloc_below _ _
  have HY : Hid (wb.cell? ⟨w5.heap.size, 0, none⟩ = some (.int .i64 0) ∧ wb.cell? ⟨w5.heap.size, 1, none⟩ = some (.int .u64 0) ∧ wb.cell? ⟨w5.heap.size, 2, none⟩ = some (.string ⟨#[]⟩)) := Lib.hid (by rw [hwb]; exact three_new _ _ _ _ _)
  have HXb := Lib.hid (three_below HX5.out hbb HLx5.out)
  have HBb := Lib.hid (HB5.out.trans (hbb.mono HB5.out.size))
  have HLy := Lib.hid (show w5.heap.size < wb.heap.size by rw [hwb]; exact alloc_lt _ _)
  have HLxb := Lib.hid (Nat.lt_of_lt_of_le HLx5.out hbb.size)
  clear hwb hbb
  refine (K5.out _).mono ?_
  rintro r w6 ⟨rfl, hb6⟩
  have HB6 := Lib.hid (HBb.out.trans (hb6.mono HBb.out.size))
  have HX6 := Lib.hid (three_below HXb.out hb6 HLxb.out)
  have HY6 := Lib.hid (three_below HY.out hb6 HLy.out)
  have HLx6 := Lib.hid (Nat.lt_of_lt_of_le HLxb.out hb6.size)
  have HLy6 := Lib.hid (Nat.lt_of_lt_of_le HLy.out hb6.size)
  clear hb6
  have hbc : Below w6.heap.size w6 (w6.alloc (.cells #[.int .i64 (k1 : Int), .int .u64 (e1 : Int), .string b1] 54)) := alloc_below _ _
  have HBc := Lib.hid (HB6.out.trans (hbc.mono HB6.out.size))
  obtain ⟨x0, x1, x2⟩ : (w6.alloc (.cells #[.int .i64 (k1 : Int), .int .u64 (e1 : Int), .string b1] 54)).cell? ⟨w4.heap.size, 0, none⟩ = some (.int .i64 (k1 : Int)) ∧ (w6.alloc (.cells #[.int .i64 (k1 : Int), .int .u64 (e1 : Int), .string b1] 54)).cell? ⟨w4.heap.size, 1, none⟩ = some (.int .u64 (e1 : Int)) ∧ (w6.alloc (.cells #[.int .i64 (k1 : Int), .int .u64 (e1 : Int), .string b1] 54)).cell? ⟨w4.heap.size, 2, none⟩ = some (.string b1) := three_below HX6.out hbc HLx6.out
  obtain ⟨y0, y1, y2⟩ : (w6.alloc (.cells #[.int .i64 (k1 : Int), .int .u64 (e1 : Int), .string b1] 54)).cell? ⟨w5.heap.size, 0, none⟩ = some (.int .i64 0) ∧ (w6.alloc (.cells #[.int .i64 (k1 : Int), .int .u64 (e1 : Int), .string b1] 54)).cell? ⟨w5.heap.size, 1, none⟩ = some (.int .u64 0) ∧ (w6.alloc (.cells #[.int .i64 (k1 : Int), .int .u64 (e1 : Int), .string b1] 54)).cell? ⟨w5.heap.size, 2, none⟩ = some (.string ⟨#[]⟩) := three_below HY6.out hbc HLy6.out
  obtain ⟨z0, z1, z2⟩ : (w6.alloc (.cells #[.int .i64 (k1 : Int), .int .u64 (e1 : Int), .string b1] 54)).cell? ⟨w6.heap.size, 0, none⟩ = some (.int .i64 (k1 : Int)) ∧ (w6.alloc (.cells #[.int .i64 (k1 : Int), .int .u64 (e1 : Int), .string b1] 54)).cell? ⟨w6.heap.size, 1, none⟩ = some (.int .u64 (e1 : Int)) ∧ (w6.alloc (.cells #[.int .i64 (k1 : Int), .int .u64 (e1 : Int), .string b1] 54)).cell? ⟨w6.heap.size, 2, none⟩ = some (.string b1) := three_new _ _ _ _ _
  clear hbc
  clear HB HB1 HF1 HL1 HB2 HF2 HL2 HX HX5 HXb HY HX6 HY6
  unfold rnV
  go_wp2
  go_ret
  exact ⟨rfl, HBc.out⟩

set_option maxRecDepth 100000 in
set_option maxHeartbeats 1000000 in
theorem fb_no_whole (k : Int) (e : Nat) (b s t : ByteArray) (c0 : Nat) (hb : b.size ≤ 9000) (hs : s.size ≤ 9000) (hc0 : c0 ≠ 0) (k1 e1 n : Nat) (b1 : ByteArray) (hn : n = s.size)
    (k1' : ∀ w, Calls Try.prog 23 #[.agg #[.int .i64 k, .int .u64 e, .string b]] w fun r w' => r = .returned (.tuple #[.string t, .int .i64 c0]) ∧ Below w.heap.size w w')
    (k2' : ∀ w, Calls Try.prog 24 #[.agg #[.int .i64 k, .int .u64 e, .string b]] w fun r w' => r = .returned (.tuple #[.string t, .int .i64 c0]) ∧ Below w.heap.size w w')
    (k3 : ∀ w, Calls Try.prog 25 #[.string s] w fun r w' => r = .returned (rdV k1 e1 b1 ⟨#[]⟩ 0) ∧ Below w.heap.size w w')
    (k4 : ∀ w, Calls Try.prog 26 #[.string s] w fun r w' => r = .returned (paV k1 e1 b1 0) ∧ Below w.heap.size w w')
    (k5 : ∀ w, Calls Try.prog 28 #[.string s] w fun r w' => r = .returned (rnV k1 e1 b1 n 0) ∧ Below w.heap.size w w') (w : World) :
    Calls Try.prog 5 #[.agg #[.int .i64 k, .int .u64 e, .string b], .string s] w fun e w' => e = .returned (.bool true) ∧ Below w.heap.size w w' := by
  have K1 := Lib.hid k1'
  have K2 := Lib.hid k2'
  have K3 := Lib.hid k3
  have K4 := Lib.hid k4
  have K5 := Lib.hid k5
  have hq0 : ((c0 : Int) == 0) = false := by rw [beq_eq_false_iff_ne]; omega
  have hmx : ¬ (max (b.size : Int) (s.size : Int) > 9000) := by omega
  have hnz : ¬ (n : Int) < (s.size : Int) := by omega
  clear hn
  clear k1' k2' k3 k4 k5 hc0
  obtain ⟨w0, hw0⟩ : ∃ w0, w0 = w.alloc (.cells #[.int .i64 (k : Int), .int .u64 (e : Int), .string b] 51) := ⟨_, rfl⟩
  have HB := Lib.hid (show Below w.heap.size w w0 by rw [hw0]; exact alloc_below _ _)
  have HF := Lib.hid (show Fr w0 w.heap.size k e b by rw [hw0]; exact Fr.new _ _ _ _)
  have HLT := Lib.hid (show w.heap.size < w0.heap.size by rw [hw0]; exact alloc_lt _ _)
  go_enter Try.func5, Try.ntmps5
  go_wp2_with fail
  rw [← hw0]
  clear hw0
  refine (awake8_any _).mono ?_
  rintro r w1 ⟨rfl, hb1⟩
  have HB1 := Lib.hid (HB.out.trans (hb1.mono HB.out.size))
  have HF1 := Lib.hid (HF.out.below hb1 HLT.out)
  have HL1 := Lib.hid (Nat.lt_of_lt_of_le HLT.out hb1.size)
  obtain ⟨f0, f1, f2⟩ := HF1.out
  clear hb1
  go_wp2_with fail
  refine (K1.out _).mono ?_
  rintro r w2 ⟨rfl, hb2⟩
  have HB2 := Lib.hid (HB1.out.trans (hb2.mono HB1.out.size))
  have HF2 := Lib.hid (HF1.out.below hb2 HL1.out)
  have HL2 := Lib.hid (Nat.lt_of_lt_of_le HL1.out hb2.size)
  clear f0 f1 f2
  obtain ⟨f0, f1, f2⟩ := HF2.out
  clear hb2
  go_wp2_with fail
  refine (K2.out _).mono ?_
  rintro r w3 ⟨rfl, hb3⟩
  have HB3 := Lib.hid (HB2.out.trans (hb3.mono HB2.out.size))
  clear f0 f1 f2 hb3
  go_wp2_with fail
  refine (K3.out _).mono ?_
  rintro r w4 ⟨rfl, hb4⟩
  have HB4 := Lib.hid (HB3.out.trans (hb4.mono HB3.out.size))
  clear hb4
  unfold rdV
  go_wp2_with fail
  obtain ⟨wa, hwa⟩ : ∃ wa, wa = w4.alloc (.cells #[.int .i64 (k1 : Int), .int .u64 (e1 : Int), .string b1] 51) := ⟨_, rfl⟩
  rw [← hwa]
  have HX : Hid (wa.cell? ⟨w4.heap.size, 0, none⟩ = some (.int .i64 (k1 : Int)) ∧ wa.cell? ⟨w4.heap.size, 1, none⟩ = some (.int .u64 (e1 : Int)) ∧ wa.cell? ⟨w4.heap.size, 2, none⟩ = some (.string b1)) := Lib.hid (by rw [hwa]; exact three_new _ _ _ _ _)
  have HBa := Lib.hid (HB4.out.trans ((show Below w4.heap.size w4 wa by rw [hwa]; exact alloc_below _ _).mono HB4.out.size))
  have HLa := Lib.hid (show w4.heap.size < wa.heap.size by rw [hwa]; exact alloc_lt _ _)
  clear hwa
  refine (K4.out _).mono ?_
  rintro r w5 ⟨rfl, hb5⟩
  have HB5 := Lib.hid (HBa.out.trans (hb5.mono HBa.out.size))
  have HX5 := Lib.hid (three_below HX.out hb5 HLa.out)
  have HLx5 := Lib.hid (Nat.lt_of_lt_of_le HLa.out hb5.size)
  clear hb5
  unfold paV
  go_wp2_with fail
  obtain ⟨wb, hwb⟩ : ∃ wb, wb = w5.alloc (.cells #[.int .i64 (k1 : Int), .int .u64 (e1 : Int), .string b1] 51) := ⟨_, rfl⟩
  rw [← hwb]
  have hbb : Below w5.heap.size w5 wb := by rw [hwb]; exact alloc_below _ _
  have HY : Hid (wb.cell? ⟨w5.heap.size, 0, none⟩ = some (.int .i64 (k1 : Int)) ∧ wb.cell? ⟨w5.heap.size, 1, none⟩ = some (.int .u64 (e1 : Int)) ∧ wb.cell? ⟨w5.heap.size, 2, none⟩ = some (.string b1)) := Lib.hid (by rw [hwb]; exact three_new _ _ _ _ _)
  have HXb := Lib.hid (three_below HX5.out hbb HLx5.out)
  have HBb := Lib.hid (HB5.out.trans (hbb.mono HB5.out.size))
  have HLy := Lib.hid (show w5.heap.size < wb.heap.size by rw [hwb]; exact alloc_lt _ _)
  have HLxb := Lib.hid (Nat.lt_of_lt_of_le HLx5.out hbb.size)
  clear hwb hbb
  refine (K5.out _).mono ?_
  rintro r w6 ⟨rfl, hb6⟩
  have HB6 := Lib.hid (HBb.out.trans (hb6.mono HBb.out.size))
  have HX6 := Lib.hid (three_below HXb.out hb6 HLxb.out)
  have HY6 := Lib.hid (three_below HY.out hb6 HLy.out)
  have HLx6 := Lib.hid (Nat.lt_of_lt_of_le HLxb.out hb6.size)
  have HLy6 := Lib.hid (Nat.lt_of_lt_of_le HLy.out hb6.size)
  clear hb6
  have hbc : Below w6.heap.size w6 (w6.alloc (.cells #[.int .i64 (k1 : Int), .int .u64 (e1 : Int), .string b1] 54)) := alloc_below _ _
  have HBc := Lib.hid (HB6.out.trans (hbc.mono HB6.out.size))
  obtain ⟨x0, x1, x2⟩ : (w6.alloc (.cells #[.int .i64 (k1 : Int), .int .u64 (e1 : Int), .string b1] 54)).cell? ⟨w4.heap.size, 0, none⟩ = some (.int .i64 (k1 : Int)) ∧ (w6.alloc (.cells #[.int .i64 (k1 : Int), .int .u64 (e1 : Int), .string b1] 54)).cell? ⟨w4.heap.size, 1, none⟩ = some (.int .u64 (e1 : Int)) ∧ (w6.alloc (.cells #[.int .i64 (k1 : Int), .int .u64 (e1 : Int), .string b1] 54)).cell? ⟨w4.heap.size, 2, none⟩ = some (.string b1) := three_below HX6.out hbc HLx6.out
  obtain ⟨y0, y1, y2⟩ : (w6.alloc (.cells #[.int .i64 (k1 : Int), .int .u64 (e1 : Int), .string b1] 54)).cell? ⟨w5.heap.size, 0, none⟩ = some (.int .i64 (k1 : Int)) ∧ (w6.alloc (.cells #[.int .i64 (k1 : Int), .int .u64 (e1 : Int), .string b1] 54)).cell? ⟨w5.heap.size, 1, none⟩ = some (.int .u64 (e1 : Int)) ∧ (w6.alloc (.cells #[.int .i64 (k1 : Int), .int .u64 (e1 : Int), .string b1] 54)).cell? ⟨w5.heap.size, 2, none⟩ = some (.string b1) := three_below HY6.out hbc HLy6.out
  obtain ⟨z0, z1, z2⟩ : (w6.alloc (.cells #[.int .i64 (k1 : Int), .int .u64 (e1 : Int), .string b1] 54)).cell? ⟨w6.heap.size, 0, none⟩ = some (.int .i64 (k1 : Int)) ∧ (w6.alloc (.cells #[.int .i64 (k1 : Int), .int .u64 (e1 : Int), .string b1] 54)).cell? ⟨w6.heap.size, 1, none⟩ = some (.int .u64 (e1 : Int)) ∧ (w6.alloc (.cells #[.int .i64 (k1 : Int), .int .u64 (e1 : Int), .string b1] 54)).cell? ⟨w6.heap.size, 2, none⟩ = some (.string b1) := three_new _ _ _ _ _
  clear hbc
  clear HB HB1 HF1 HL1 HB2 HF2 HL2 HX HX5 HXb HY HX6 HY6
  unfold rnV
  go_wp2
  go_ret
  exact ⟨rfl, HBc.out⟩
end Go.Proofs.Ytlochpnifjmefaa

namespace Go.Proofs.Ytlochpnifjmefaa
open Go.RowKit

/-- A value: its kind, its number, its text, the values within. -/
inductive Tr : Type where
  | mk (k : Int) (n : Nat) (s : ByteArray) (l : List Tr) : Tr
theorem Tr.ind {P : Tr → Prop} (h : ∀ k n s l, (∀ x ∈ l, P x) → P (.mk k n s l)) : ∀ t, P t
  | .mk k n s l => h k n s l (fun x _ => Tr.ind h x)
termination_by t => SizeOf.sizeOf t
decreasing_by
  have := List.sizeOf_lt_of_mem ‹x ∈ l›
  simp; omega

mutual
/-- A value as it lies in memory: its four cells. -/
def VIn (w : World) : Tr → Value → Value → Value → Value → Prop
  | .mk k n s l, c0, c1, c2, c3 => c0 = .int .i64 k ∧ c1 = .int .u64 (n : Int) ∧ n ≤ 18446744073709551615 ∧ c2 = .string s ∧ (s.size ≤ 1000000000 ∧ l.length ≤ 1000000) ∧ ∃ (o : Option Addr) (cap b off : Nat), c3 = .slice o l.length cap ∧ (0 < l.length → o = some ⟨b, off, none⟩ ∧ b < w.heap.size) ∧ VInL w b off l
def VInL (w : World) (b : Nat) : Nat → List Tr → Prop
  | _, [] => True
  | off, t :: ts => (∃ c0 c1 c2 c3, w.cell? ⟨b, off, none⟩ = some c0 ∧ w.cell? ⟨b, off + 1, none⟩ = some c1 ∧ w.cell? ⟨b, off + 2, none⟩ = some c2 ∧ w.cell? ⟨b, off + 3, none⟩ = some c3 ∧ VIn w t c0 c1 c2 c3) ∧ VInL w b (off + 4) ts
end
theorem VInL.at {w : World} {b : Nat} : ∀ {off : Nat} {l : List Tr} (i : Nat) (h : i < l.length), VInL w b off l → ∃ c0 c1 c2 c3, w.cell? ⟨b, off + i * 4, none⟩ = some c0 ∧ w.cell? ⟨b, off + i * 4 + 1, none⟩ = some c1 ∧ w.cell? ⟨b, off + i * 4 + 2, none⟩ = some c2 ∧ w.cell? ⟨b, off + i * 4 + 3, none⟩ = some c3 ∧ VIn w l[i] c0 c1 c2 c3
  | off, t :: ts, 0, _, h => by
    unfold VInL at h
    simpa using h.1
  | off, t :: ts, i + 1, hi, h => by
    unfold VInL at h
    have := VInL.at i (by simpa using hi) h.2
    rw [show off + (i + 1) * 4 = off + 4 + i * 4 by omega]
    simpa using this
theorem VInL.of {w : World} {b : Nat} : ∀ {off : Nat} {l : List Tr}, (∀ (i : Nat) (h : i < l.length), ∃ c0 c1 c2 c3, w.cell? ⟨b, off + i * 4, none⟩ = some c0 ∧ w.cell? ⟨b, off + i * 4 + 1, none⟩ = some c1 ∧ w.cell? ⟨b, off + i * 4 + 2, none⟩ = some c2 ∧ w.cell? ⟨b, off + i * 4 + 3, none⟩ = some c3 ∧ VIn w l[i] c0 c1 c2 c3) → VInL w b off l
  | off, [], _ => by unfold VInL; trivial
  | off, t :: ts, h => by
    unfold VInL
    have h0 := h 0 (by simp)
    rw [Nat.zero_mul, Nat.add_zero] at h0
    refine ⟨h0, VInL.of (fun i hi => ?_)⟩
    have := h (i + 1) (by simpa using hi)
    rw [show off + (i + 1) * 4 = off + 4 + i * 4 by omega] at this
    simpa using this
theorem VIn.cells {w : World} : ∀ {t : Tr} {c0 c1 c2 c3 : Value}, VIn w t c0 c1 c2 c3 → ∃ (k : Int) (n : Nat) (s : ByteArray) (o : Option Addr) (len cap : Nat), c0 = .int .i64 k ∧ c1 = .int .u64 (n : Int) ∧ c2 = .string s ∧ c3 = .slice o len cap
  | .mk k n s l, _, _, _, _, h => by
    unfold VIn at h
    obtain ⟨h0, h1, _, h2, _, o, cap, _, _, h3, _⟩ := h
    exact ⟨k, n, s, o, l.length, cap, h0, h1, h2, h3⟩
/-- What lies there goes on lying there. -/
theorem VIn.later {w w' : World} (hb : Below w.heap.size w w') : ∀ (t : Tr) {c0 c1 c2 c3 : Value}, VIn w t c0 c1 c2 c3 → VIn w' t c0 c1 c2 c3 := by
  refine Tr.ind ?_
  intro k n s l ih c0 c1 c2 c3 h
  unfold VIn at h ⊢
  obtain ⟨h0, h1, hn, h2, hz, o, cap, b, off, h3, ho, hl⟩ := h
  refine ⟨h0, h1, hn, h2, hz, o, cap, b, off, h3, fun hp => ⟨(ho hp).1, Nat.lt_of_lt_of_le (ho hp).2 hb.size⟩, VInL.of (fun i hi => ?_)⟩
  obtain ⟨d0, d1, d2, d3, e0, e1, e2, e3, hv⟩ := hl.at i hi
  have hbl := (ho (by omega)).2
  exact ⟨d0, d1, d2, d3, (hb.cell (p := ⟨b, _, none⟩) hbl).trans e0, (hb.cell (p := ⟨b, _, none⟩) hbl).trans e1, (hb.cell (p := ⟨b, _, none⟩) hbl).trans e2, (hb.cell (p := ⟨b, _, none⟩) hbl).trans e3, ih _ (List.getElem_mem hi) hv⟩

mutual
def sndT : Tr → Bool
  | .mk k n s l => decide (1 ≤ k ∧ k ≤ 3) && (decide (k = 1) || decide (n = 0)) && (decide (k = 2) || decide (s.size = 0)) && (decide (k = 3) || decide (l.length = 0)) && sndL l
def sndL : List Tr → Bool
  | [] => true
  | t :: ts => sndT t && sndL ts
end
theorem sndL_all : ∀ l : List Tr, sndL l = l.all sndT
  | [] => by unfold sndL; rfl
  | t :: ts => by unfold sndL; rw [List.all_cons, sndL_all ts]
mutual
def deepT : Tr → Nat
  | .mk k _ _ l => if k = 3 then deepL l + 1 else 0
def deepL : List Tr → Nat
  | [] => 0
  | t :: ts => max (deepT t) (deepL ts)
end
end Go.Proofs.Ytlochpnifjmefaa
