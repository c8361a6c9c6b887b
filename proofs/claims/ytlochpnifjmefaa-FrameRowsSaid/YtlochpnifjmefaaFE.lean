/- frame.Next, frame.Parse, out of what frame.read answers. -/
import Derived.Test.YtlochpnifjmefaaFC
namespace Go.Proofs.Ytlochpnifjmefaa
open Go.RowKit

/-- What Parse answers. -/
def paV (k e : Nat) (b : ByteArray) (c : Nat) : Value := .tuple #[.agg #[.int .i64 (k : Int), .int .u64 (e : Int), .string b], .int .i64 (c : Int)]

set_option maxRecDepth 100000 in
set_option maxHeartbeats 1000000 in
theorem next_of (s : ByteArray) (k e : Nat) (b r : ByteArray) (c : Nat) (hr : r.size ≤ 1000000000)
    (h : ∀ w, Calls Try.prog 46 #[.string s] w fun x w' => x = .returned (rdV k e b r c) ∧ Below w.heap.size w w') (w : World) :
    Calls Try.prog 25 #[.string s] w fun x w' => x = .returned (rdV k e b r c) ∧ Below w.heap.size w w' := by
  have K1 := Lib.hid h
  have K2 := Lib.hid (fun w => clone_any r w hr)
  clear h hr
  go_enter Try.func25, Try.ntmps25
  go_wp2_with fail
  refine (K1.out _).mono ?_
  rintro x w2 ⟨rfl, hb2⟩
  obtain ⟨w0, hw0⟩ : ∃ w0, w0 = w.alloc (.cells #[.int .i64 0, .int .u64 0, .string ⟨#[]⟩] 51) := ⟨_, rfl⟩
  rw [← hw0] at hb2
  have hB : Below w.heap.size w w0 := by rw [hw0]; exact (Below.refl _ _).alloc (Nat.le_refl _) _
  have hlt : w.heap.size < w0.heap.size := by rw [hw0]; simp
  have hF : Frz w0 w.heap.size 0 0 ⟨#[]⟩ := by rw [hw0]; exact Frz.new _ _ _ _
  have HB2 := Lib.hid (hB.trans (hb2.mono hB.size))
  have HF2 := Lib.hid (hF.below hb2 hlt)
  have HL2 := Lib.hid (Nat.lt_of_lt_of_le hlt hb2.size)
  clear hB hlt hF hb2 hw0
  unfold rdV
  go_wp2_with fail
  obtain ⟨wa, hwa⟩ : ∃ wa, wa = w2.alloc (.cells #[.int .i64 (k : Int), .int .u64 (e : Int), .string b] 51) := ⟨_, rfl⟩
  rw [← hwa]
  have hF3 : Frz wa w2.heap.size k e b := by rw [hwa]; exact Frz.new _ _ _ _
  have hb3 : Below w2.heap.size w2 wa := by rw [hwa]; exact (Below.refl _ _).alloc (Nat.le_refl _) _
  have HG := Lib.hid (HF2.out.below hb3 HL2.out)
  have HB3 := Lib.hid (HB2.out.trans (hb3.mono HB2.out.size))
  have HL3 := Lib.hid (Nat.lt_of_lt_of_le HL2.out hb3.size)
  have HD := Lib.hid hF3
  have HN := Lib.hid (show w2.heap.size < wa.heap.size by rw [hwa]; simp)
  clear hb3 hF3 hwa
  obtain ⟨d0, d1, d2, e0, e1, e2⟩ := HD.out
  go_region_with (first
    | (go_at_call 39; refine (K2.out _).mono ?_; rintro x w3 ⟨rfl, hb3⟩; have hb4 := ((Below.refl wa.heap.size wa).drew).trans hb3; clear hb3; obtain ⟨c0, c1, c2, f0, f1, f2⟩ := HG.out.below hb4 HL3.out; obtain ⟨g0, g1, g2, h0, h1, h2⟩ := HD.out.below hb4 HN.out))
  all_goals
    have hbb := ‹Below wa.heap.size wa _›
    have HBB := Lib.hid (HB3.out.trans (hbb.mono HB3.out.size))
    clear hbb
    go_wp2
    refine bodyPost_ret (v := rdV k e b r c) (by simp [results, Try.results25, go_sem, rdV, *]) rfl ⟨rfl, ?_⟩
    exact (((HBB.out.setCell (Nat.le_refl _) _).setCell (Nat.le_refl _) _).setCell (Nat.le_refl _) _)

set_option maxHeartbeats 1000000 in
theorem parse_bad (s : ByteArray) (c : Nat) (hc0 : c ≠ 0) (_hc : c < 1000)
    (h : ∀ w, Calls Try.prog 46 #[.string s] w fun x w' => x = .returned (rdV 0 0 ⟨#[]⟩ ⟨#[]⟩ c) ∧ Below w.heap.size w w') (w : World) :
    Calls Try.prog 26 #[.string s] w fun x w' => x = .returned (paV 0 0 ⟨#[]⟩ c) ∧ Below w.heap.size w w' := by
  have hq : ((c : Int) != 0) = true := by simp; omega
  have K1 := Lib.hid h
  clear h hc0
  go_enter Try.func26, Try.ntmps26
  go_wp2_with fail
  refine (K1.out _).mono ?_
  rintro x w2 ⟨rfl, hb2⟩
  obtain ⟨w0, hw0⟩ : ∃ w0, w0 = w.alloc (.cells #[.int .i64 0, .int .u64 0, .string ⟨#[]⟩] 51) := ⟨_, rfl⟩
  rw [← hw0] at hb2
  have hB : Below w.heap.size w w0 := by rw [hw0]; exact (Below.refl _ _).alloc (Nat.le_refl _) _
  have hlt : w.heap.size < w0.heap.size := by rw [hw0]; simp
  have hF : Frz w0 w.heap.size 0 0 ⟨#[]⟩ := by rw [hw0]; exact Frz.new _ _ _ _
  have HB2 := Lib.hid (hB.trans (hb2.mono hB.size))
  have HF2 := Lib.hid (hF.below hb2 hlt)
  have HL2 := Lib.hid (Nat.lt_of_lt_of_le hlt hb2.size)
  clear hB hlt hF hb2 hw0
  have hb3 : Below w2.heap.size w2 (w2.alloc (.cells #[.int .i64 0, .int .u64 0, .string ⟨#[]⟩] 51)) := (Below.refl _ _).alloc (Nat.le_refl _) _
  have HB3 := Lib.hid (HB2.out.trans (hb3.mono HB2.out.size))
  obtain ⟨c0, c1, c2, f0, f1, f2⟩ := HF2.out.below hb3 HL2.out
  clear hb3
  unfold rdV
  go_wp2
  exact bodyPost_ret (v := paV 0 0 ⟨#[]⟩ c) (by simp [results, Try.results26, go_sem, paV, *]) rfl ⟨rfl, ((HB3.out.setCell (Nat.le_refl _) _).setCell (Nat.le_refl _) _).setCell (Nat.le_refl _) _⟩

set_option maxHeartbeats 1000000 in
theorem parse_form (s : ByteArray) (k e : Nat) (b r : ByteArray) (hr : 1 ≤ r.size)
    (h : ∀ w, Calls Try.prog 46 #[.string s] w fun x w' => x = .returned (rdV k e b r 0) ∧ Below w.heap.size w w') (w : World) :
    Calls Try.prog 26 #[.string s] w fun x w' => x = .returned (paV 0 0 ⟨#[]⟩ 4) ∧ Below w.heap.size w w' := by
  have hq := empty_no r hr
  have hq2 : (!r.toList.isEmpty) = true := by rw [hq]; rfl
  have K1 := Lib.hid h
  clear h hr
  go_enter Try.func26, Try.ntmps26
  go_wp2_with fail
  refine (K1.out _).mono ?_
  rintro x w2 ⟨rfl, hb2⟩
  obtain ⟨w0, hw0⟩ : ∃ w0, w0 = w.alloc (.cells #[.int .i64 0, .int .u64 0, .string ⟨#[]⟩] 51) := ⟨_, rfl⟩
  rw [← hw0] at hb2
  have hB : Below w.heap.size w w0 := by rw [hw0]; exact (Below.refl _ _).alloc (Nat.le_refl _) _
  have hlt : w.heap.size < w0.heap.size := by rw [hw0]; simp
  have hF : Frz w0 w.heap.size 0 0 ⟨#[]⟩ := by rw [hw0]; exact Frz.new _ _ _ _
  have HB2 := Lib.hid (hB.trans (hb2.mono hB.size))
  have HF2 := Lib.hid (hF.below hb2 hlt)
  have HL2 := Lib.hid (Nat.lt_of_lt_of_le hlt hb2.size)
  clear hB hlt hF hb2 hw0
  have hb3 : Below w2.heap.size w2 (w2.alloc (.cells #[.int .i64 k, .int .u64 e, .string b] 51)) := (Below.refl _ _).alloc (Nat.le_refl _) _
  have HB3 := Lib.hid (HB2.out.trans (hb3.mono HB2.out.size))
  obtain ⟨c0, c1, c2, f0, f1, f2⟩ := HF2.out.below hb3 HL2.out
  clear hb3
  unfold rdV
  go_wp2
  exact bodyPost_ret (v := paV 0 0 ⟨#[]⟩ 4) (by simp [results, Try.results26, go_sem, paV, *]) rfl ⟨rfl, ((HB3.out.setCell (Nat.le_refl _) _).setCell (Nat.le_refl _) _).setCell (Nat.le_refl _) _⟩
set_option maxHeartbeats 1000000 in
theorem parse_fine (s : ByteArray) (k e : Nat) (b r : ByteArray) (hr : r.size = 0)
    (h : ∀ w, Calls Try.prog 46 #[.string s] w fun x w' => x = .returned (rdV k e b r 0) ∧ Below w.heap.size w w') (w : World) :
    Calls Try.prog 26 #[.string s] w fun x w' => x = .returned (paV k e b 0) ∧ Below w.heap.size w w' := by
  have hq := empty_yes r hr
  have hq2 : (!r.toList.isEmpty) = false := by rw [hq]; rfl
  have K1 := Lib.hid h
  clear h hr
  go_enter Try.func26, Try.ntmps26
  go_wp2_with fail
  refine (K1.out _).mono ?_
  rintro x w2 ⟨rfl, hb2⟩
  obtain ⟨w0, hw0⟩ : ∃ w0, w0 = w.alloc (.cells #[.int .i64 0, .int .u64 0, .string ⟨#[]⟩] 51) := ⟨_, rfl⟩
  rw [← hw0] at hb2
  have hB : Below w.heap.size w w0 := by rw [hw0]; exact (Below.refl _ _).alloc (Nat.le_refl _) _
  have hlt : w.heap.size < w0.heap.size := by rw [hw0]; simp
  have hF : Frz w0 w.heap.size 0 0 ⟨#[]⟩ := by rw [hw0]; exact Frz.new _ _ _ _
  have HB2 := Lib.hid (hB.trans (hb2.mono hB.size))
  have HF2 := Lib.hid (hF.below hb2 hlt)
  have HL2 := Lib.hid (Nat.lt_of_lt_of_le hlt hb2.size)
  clear hB hlt hF hb2 hw0
  have hb3 : Below w2.heap.size w2 (w2.alloc (.cells #[.int .i64 k, .int .u64 e, .string b] 51)) := (Below.refl _ _).alloc (Nat.le_refl _) _
  have HB3 := Lib.hid (HB2.out.trans (hb3.mono HB2.out.size))
  obtain ⟨c0, c1, c2, f0, f1, f2⟩ := HF2.out.below hb3 HL2.out
  obtain ⟨d0, d1, d2, e0, e1, e2⟩ := Frz.new w2 k e b
  clear hb3
  unfold rdV
  go_wp2
  exact bodyPost_ret (v := paV k e b 0) (by simp [results, Try.results26, go_sem, paV, *]) rfl ⟨rfl, ((HB3.out.setCell (Nat.le_refl _) _).setCell (Nat.le_refl _) _).setCell (Nat.le_refl _) _⟩
end Go.Proofs.Ytlochpnifjmefaa
