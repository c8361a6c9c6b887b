/- frame.read of a frame that stands.; frame.Next, frame.Parse, out of what frame.read answers. -/
import Derived.Test.YtlochpnifjmefaaJ10
set_option linter.unusedVariables false
set_option linter.unusedSimpArgs false
namespace Go.Proofs.Ytlochpnifjmefaa
open Go.RowKit

set_option maxRecDepth 100000 in
set_option maxHeartbeats 1000000 in
theorem read_fine (s : ByteArray) (hs : 20 ≤ s.size) (hp : preS s = true) (hk : kindS s ≠ 0) (hn : lenN s ≤ 8192) (hc : lenN s + 20 ≤ s.size) (hm : okS s) (hmax : s.size ≤ 1000000000) (w : World) :
    Calls Try.prog 46 #[.string s] w fun r w' => r = .returned (rdV (kindS s) (epS s) (bodyS s) (restS s) 0) ∧ Below w.heap.size w w' := by
  have h20 : ¬ s.size < 20 := by omega
  have h3 : 3 < s.size := by omega
  have hz : ((s[3].toNat : Int) == 0) = false := by rw [← kind_at s h3, beq_eq_false_iff_ne]; omega
  have hps : (s.extract 0 (lenN s + 20)).size = lenN s + 16 + 4 := by rw [ByteArray.size_extract]; omega
  have K1 := Lib.hid (pre_call s hp)
  have K2 := Lib.hid (num_call s hs _ rfl)
  have K5 := Lib.hid (ep_call s hs _ rfl)
  have k4 := fun w => check_ok (s.extract 0 (lenN s + 20)) w (lenN s + 16) hps (by omega) ((ok_iff s hc hp).1 hm)
  have hbd := text_body s hc
  have hts : ((s.extract 0 (lenN s + 20)).extract 0 (lenN s + 16)).size = lenN s + 16 := by rw [ByteArray.size_extract, ByteArray.size_extract]; omega
  have hrest : restS s = s.extract (lenN s + 20) s.size := rfl
  rw [hrest]
  have hkk := kind_at s h3
  clear hm hps hrest hk
  generalize lenN s = n at *
  generalize (s.extract 0 (n + 20)).extract 0 (n + 16) = t at *
  have K3 := Lib.hid (fun w => size_any n (by omega) w)
  have hc' : ¬ s.size < n + 20 := by omega
  have ht16 : 16 ≤ t.size := by omega
  obtain ⟨k, hkd⟩ : ∃ k, kindS s = k := ⟨_, rfl⟩
  rw [hkd] at hkk ⊢
  rw [← hbd]
  have HKK := Lib.hid hkk
  clear hkd
  clear hbd hkk hts
  generalize hq : n + 20 = q at *
  have HQ := Lib.hid hq
  have K4 := Lib.hid k4
  clear hp k4 hq
  go_enter Try.func46, Try.ntmps46
  go_wp2_with fail
  refine (K1.out _).mono ?_
  rintro r w1 ⟨rfl, rfl⟩
  go_wp2_with fail
  refine (K2.out _).mono ?_
  rintro r w1 ⟨rfl, rfl⟩
  go_wp2_with fail
  refine (K3.out _).mono ?_
  rintro r w1 ⟨rfl, rfl⟩
  go_wp2_with fail
  refine (K4.out _).mono ?_
  rintro r w2 ⟨rfl, hb2⟩
  go_wp2_with fail
  have i12 : (12 : Int) ≤ (s.size : Int) := by omega
  have i16 : (16 : Int) ≤ (t.size : Int) := by omega
  have i3 : (3 : Int) < (s.size : Int) := by omega
  have iq : (q : Int) ≤ (s.size : Int) := by omega
  have iq0 : (0 : Int) ≤ (q : Int) := by omega
  have hwr : IntKind.i64.wrap (s[3].toNat : Int) = (k : Int) := by rw [← HKK.out]; exact IntWalk.i64_in _ (by have := s[3].toNat_lt; have := HKK.out; omega)
  obtain ⟨w0, hw0⟩ : ∃ w0, w0 = w.alloc (.cells #[.int .i64 0, .int .u64 0, .string ⟨#[]⟩] 51) := ⟨_, rfl⟩
  rw [← hw0] at hb2
  have hB : Below w.heap.size w w0 := by rw [hw0]; exact (Below.refl _ _).alloc (Nat.le_refl _) _
  have hlt : w.heap.size < w0.heap.size := by rw [hw0]; simp
  have hF : Frz w0 w.heap.size 0 0 ⟨#[]⟩ := by rw [hw0]; exact Frz.new _ _ _ _
  have HB2 := Lib.hid (hB.trans (hb2.mono hB.size))
  have HF2 := Lib.hid (hF.below hb2 hlt)
  have HL2 := Lib.hid (Nat.lt_of_lt_of_le hlt hb2.size)
  clear hs h20 hn hc hmax hc' ht16 hB hlt hF hb2 hw0
  go_region_held3 (fun w' => w2.heap.size ≤ w'.heap.size) (first | (exact Nat.le_refl _) | go_keep | (simp; omega)) (first | (go_at_call 60; refine (K5.out _).mono ?_; rintro r w5 ⟨rfl, rfl⟩))
  all_goals
    simp only [Exit.then]
    apply_assumption
    have hb3 : Below w2.heap.size w2 (w2.alloc (.cells #[.int .i64 k, .int .u64 (epS s), .string (t.extract 16 t.size)] 51)) := (Below.refl _ _).alloc (Nat.le_refl _) _
    have hF3 : Frz (w2.alloc (.cells #[.int .i64 k, .int .u64 (epS s), .string (t.extract 16 t.size)] 51)) w2.heap.size k (epS s) (t.extract 16 t.size) := Frz.new _ _ _ _
    have HB3 := Lib.hid (HB2.out.trans (hb3.mono HB2.out.size))
    obtain ⟨c0, c1, c2, f0, f1, f2⟩ := HF2.out.below hb3 HL2.out
    obtain ⟨d0, d1, d2, e0, e1, e2⟩ := hF3
    clear hb3
    generalize w2.alloc (.cells #[.int .i64 (k : Int), .int .u64 (epS s : Int), .string (t.extract 16 t.size)] 51) = wa at *
    go_wp2_with fail
    go_region
    all_goals
      go_wp2
      refine bodyPost_ret (v := rdV k (epS s) (t.extract 16 t.size) (s.extract q s.size) 0) (by simp [results, Try.results46, go_sem, rdV, *]) rfl ⟨rfl, ?_⟩
      first | exact (((HB3.out.setCell (Nat.le_refl _) _).setCell (Nat.le_refl _) _).setCell (Nat.le_refl _) _).drew.drew | exact (((HB3.out.setCell (Nat.le_refl _) _).setCell (Nat.le_refl _) _).setCell (Nat.le_refl _) _).drew | exact (((HB3.out.setCell (Nat.le_refl _) _).setCell (Nat.le_refl _) _).setCell (Nat.le_refl _) _)

/-- What reading a text answers. -/
theorem read_any (s : ByteArray) (hmax : s.size ≤ 1000000000) (w : World) :
    Calls Try.prog 46 #[.string s] w fun r w' => r = .returned (rdV (rK s) (rE s) (rB s) (rR s) (codeS s)) ∧ Below w.heap.size w w' := by
  by_cases h1 : s.size < 20
  · have hc : codeS s = 3 := by unfold codeS; rw [if_pos h1]
    obtain ⟨a, b, c, d, _⟩ := r_bad (s := s) (by omega)
    rw [a, b, c, d, hc]; exact read_short s h1 w
  by_cases h2 : preS s = false
  · have hc : codeS s = 4 := by unfold codeS; rw [if_neg h1, if_pos h2]
    obtain ⟨a, b, c, d, _⟩ := r_bad (s := s) (by omega)
    rw [a, b, c, d, hc]; exact read_form s (by omega) h2 w
  by_cases h3 : kindS s = 0
  · have hc : codeS s = 10 := by unfold codeS; rw [if_neg h1, if_neg h2, if_pos h3]
    obtain ⟨a, b, c, d, _⟩ := r_bad (s := s) (by omega)
    rw [a, b, c, d, hc]; exact read_kind s (by omega) (by simpa using h2) h3 w
  by_cases h4 : 8192 < lenN s
  · have hc : codeS s = 5 := by unfold codeS; rw [if_neg h1, if_neg h2, if_neg h3, if_pos h4]
    obtain ⟨a, b, c, d, _⟩ := r_bad (s := s) (by omega)
    rw [a, b, c, d, hc]; exact read_long s (by omega) (by simpa using h2) h3 h4 w
  by_cases h5 : s.size < lenN s + 20
  · have hc : codeS s = 3 := by unfold codeS; rw [if_neg h1, if_neg h2, if_neg h3, if_neg h4, if_pos h5]
    obtain ⟨a, b, c, d, _⟩ := r_bad (s := s) (by omega)
    rw [a, b, c, d, hc]; exact read_cut s (by omega) (by simpa using h2) h3 (by omega) h5 w
  by_cases h6 : okS s
  · have hc : codeS s = 0 := by unfold codeS; rw [if_neg h1, if_neg h2, if_neg h3, if_neg h4, if_neg h5, if_pos h6]
    obtain ⟨a, b, c, d, _⟩ := r_ok hc
    rw [a, b, c, d, hc]; exact read_fine s (by omega) (by simpa using h2) h3 (by omega) (by omega) h6 hmax w
  · have hc : codeS s = 9 := by unfold codeS; rw [if_neg h1, if_neg h2, if_neg h3, if_neg h4, if_neg h5, if_neg h6]
    obtain ⟨a, b, c, d, _⟩ := r_bad (s := s) (by omega)
    rw [a, b, c, d, hc]; exact read_sum s (by omega) (by simpa using h2) h3 (by omega) (by omega) h6 hmax w
end Go.Proofs.Ytlochpnifjmefaa

namespace Go.Proofs.Ytlochpnifjmefaa
open Go.RowKit

/-- What Parse answers. -/
def paV (k e : Nat) (b : ByteArray) (c : Nat) : Value := .tuple #[.agg #[.int .i64 (k : Int), .int .u64 (e : Int), .string b], .int .i64 (c : Int)]

set_option maxRecDepth 100000 in
set_option maxHeartbeats 1000000 in
theorem next_of (s : ByteArray) (k e : Nat) (b r : ByteArray) (c : Nat) (hr : r.size ≤ 1000000000)
    (h : ∀ w, Calls Try.prog 46 #[.string s] w fun x w' => x = .returned (rdV k e b r c) ∧ Below w.heap.size w w') (w : World) :
    Calls Try.prog 25 #[.string s] w fun x w' => x = .returned (rdV k e b r c) ∧ Below w.heap.size w w' := by
  have K1 := Lib.hid h
  have K2 := Lib.hid (fun w => clone_any r w hr)
  clear h hr
  go_enter Try.func25, Try.ntmps25
  go_wp2_with fail
  refine (K1.out _).mono ?_
  rintro x w2 ⟨rfl, hb2⟩
  obtain ⟨w0, hw0⟩ : ∃ w0, w0 = w.alloc (.cells #[.int .i64 0, .int .u64 0, .string ⟨#[]⟩] 51) := ⟨_, rfl⟩
  rw [← hw0] at hb2
  have hB : Below w.heap.size w w0 := by rw [hw0]; exact (Below.refl _ _).alloc (Nat.le_refl _) _
  have hlt : w.heap.size < w0.heap.size := by rw [hw0]; simp
  have hF : Frz w0 w.heap.size 0 0 ⟨#[]⟩ := by rw [hw0]; exact Frz.new _ _ _ _
  have HB2 := Lib.hid (hB.trans (hb2.mono hB.size))
  have HF2 := Lib.hid (hF.below hb2 hlt)
  have HL2 := Lib.hid (Nat.lt_of_lt_of_le hlt hb2.size)
  clear hB hlt hF hb2 hw0
  unfold rdV
  go_wp2_with fail
  obtain ⟨wa, hwa⟩ : ∃ wa, wa = w2.alloc (.cells #[.int .i64 (k : Int), .int .u64 (e : Int), .string b] 51) := ⟨_, rfl⟩
  rw [← hwa]
  have hF3 : Frz wa w2.heap.size k e b := by rw [hwa]; exact Frz.new _ _ _ _
  have hb3 : Below w2.heap.size w2 wa := by rw [hwa]; exact (Below.refl _ _).alloc (Nat.le_refl _) _
  have HG := Lib.hid (HF2.out.below hb3 HL2.out)
  have HB3 := Lib.hid (HB2.out.trans (hb3.mono HB2.out.size))
  have HL3 := Lib.hid (Nat.lt_of_lt_of_le HL2.out hb3.size)
  have HD := Lib.hid hF3
  have HN := Lib.hid (show w2.heap.size < wa.heap.size by rw [hwa]; simp)
  clear hb3 hF3 hwa
  obtain ⟨d0, d1, d2, e0, e1, e2⟩ := HD.out
  go_region_with (first
    | (go_at_call 39; refine (K2.out _).mono ?_; rintro x w3 ⟨rfl, hb3⟩; have hb4 := ((Below.refl wa.heap.size wa).drew).trans hb3; clear hb3; obtain ⟨c0, c1, c2, f0, f1, f2⟩ := HG.out.below hb4 HL3.out; obtain ⟨g0, g1, g2, h0, h1, h2⟩ := HD.out.below hb4 HN.out))
  all_goals
    have hbb := ‹Below wa.heap.size wa _›
    have HBB := Lib.hid (HB3.out.trans (hbb.mono HB3.out.size))
    clear hbb
    go_wp2
    refine bodyPost_ret (v := rdV k e b r c) (by simp [results, Try.results25, go_sem, rdV, *]) rfl ⟨rfl, ?_⟩
    exact (((HBB.out.setCell (Nat.le_refl _) _).setCell (Nat.le_refl _) _).setCell (Nat.le_refl _) _)

set_option maxHeartbeats 1000000 in
theorem parse_bad (s : ByteArray) (c : Nat) (hc0 : c ≠ 0) (_hc : c < 1000)
    (h : ∀ w, Calls Try.prog 46 #[.string s] w fun x w' => x = .returned (rdV 0 0 ⟨#[]⟩ ⟨#[]⟩ c) ∧ Below w.heap.size w w') (w : World) :
    Calls Try.prog 26 #[.string s] w fun x w' => x = .returned (paV 0 0 ⟨#[]⟩ c) ∧ Below w.heap.size w w' := by
  have hq : ((c : Int) != 0) = true := by simp; omega
  have K1 := Lib.hid h
  clear h hc0
  go_enter Try.func26, Try.ntmps26
  go_wp2_with fail
  refine (K1.out _).mono ?_
  rintro x w2 ⟨rfl, hb2⟩
  obtain ⟨w0, hw0⟩ : ∃ w0, w0 = w.alloc (.cells #[.int .i64 0, .int .u64 0, .string ⟨#[]⟩] 51) := ⟨_, rfl⟩
  rw [← hw0] at hb2
  have hB : Below w.heap.size w w0 := by rw [hw0]; exact (Below.refl _ _).alloc (Nat.le_refl _) _
  have hlt : w.heap.size < w0.heap.size := by rw [hw0]; simp
  have hF : Frz w0 w.heap.size 0 0 ⟨#[]⟩ := by rw [hw0]; exact Frz.new _ _ _ _
  have HB2 := Lib.hid (hB.trans (hb2.mono hB.size))
  have HF2 := Lib.hid (hF.below hb2 hlt)
  have HL2 := Lib.hid (Nat.lt_of_lt_of_le hlt hb2.size)
  clear hB hlt hF hb2 hw0
  have hb3 : Below w2.heap.size w2 (w2.alloc (.cells #[.int .i64 0, .int .u64 0, .string ⟨#[]⟩] 51)) := (Below.refl _ _).alloc (Nat.le_refl _) _
  have HB3 := Lib.hid (HB2.out.trans (hb3.mono HB2.out.size))
  obtain ⟨c0, c1, c2, f0, f1, f2⟩ := HF2.out.below hb3 HL2.out
  clear hb3
  unfold rdV
  go_wp2
  exact bodyPost_ret (v := paV 0 0 ⟨#[]⟩ c) (by simp [results, Try.results26, go_sem, paV, *]) rfl ⟨rfl, ((HB3.out.setCell (Nat.le_refl _) _).setCell (Nat.le_refl _) _).setCell (Nat.le_refl _) _⟩

set_option maxHeartbeats 1000000 in
theorem parse_form (s : ByteArray) (k e : Nat) (b r : ByteArray) (hr : 1 ≤ r.size)
    (h : ∀ w, Calls Try.prog 46 #[.string s] w fun x w' => x = .returned (rdV k e b r 0) ∧ Below w.heap.size w w') (w : World) :
    Calls Try.prog 26 #[.string s] w fun x w' => x = .returned (paV 0 0 ⟨#[]⟩ 4) ∧ Below w.heap.size w w' := by
  have hq := empty_no r hr
  have hq2 : (!r.toList.isEmpty) = true := by rw [hq]; rfl
  have K1 := Lib.hid h
  clear h hr
  go_enter Try.func26, Try.ntmps26
  go_wp2_with fail
  refine (K1.out _).mono ?_
  rintro x w2 ⟨rfl, hb2⟩
  obtain ⟨w0, hw0⟩ : ∃ w0, w0 = w.alloc (.cells #[.int .i64 0, .int .u64 0, .string ⟨#[]⟩] 51) := ⟨_, rfl⟩
  rw [← hw0] at hb2
  have hB : Below w.heap.size w w0 := by rw [hw0]; exact (Below.refl _ _).alloc (Nat.le_refl _) _
  have hlt : w.heap.size < w0.heap.size := by rw [hw0]; simp
  have hF : Frz w0 w.heap.size 0 0 ⟨#[]⟩ := by rw [hw0]; exact Frz.new _ _ _ _
  have HB2 := Lib.hid (hB.trans (hb2.mono hB.size))
  have HF2 := Lib.hid (hF.below hb2 hlt)
  have HL2 := Lib.hid (Nat.lt_of_lt_of_le hlt hb2.size)
  clear hB hlt hF hb2 hw0
  have hb3 : Below w2.heap.size w2 (w2.alloc (.cells #[.int .i64 k, .int .u64 e, .string b] 51)) := (Below.refl _ _).alloc (Nat.le_refl _) _
  have HB3 := Lib.hid (HB2.out.trans (hb3.mono HB2.out.size))
  obtain ⟨c0, c1, c2, f0, f1, f2⟩ := HF2.out.below hb3 HL2.out
  clear hb3
  unfold rdV
  go_wp2
  exact bodyPost_ret (v := paV 0 0 ⟨#[]⟩ 4) (by simp [results, Try.results26, go_sem, paV, *]) rfl ⟨rfl, ((HB3.out.setCell (Nat.le_refl _) _).setCell (Nat.le_refl _) _).setCell (Nat.le_refl _) _⟩
set_option maxHeartbeats 1000000 in
theorem parse_fine (s : ByteArray) (k e : Nat) (b r : ByteArray) (hr : r.size = 0)
    (h : ∀ w, Calls Try.prog 46 #[.string s] w fun x w' => x = .returned (rdV k e b r 0) ∧ Below w.heap.size w w') (w : World) :
    Calls Try.prog 26 #[.string s] w fun x w' => x = .returned (paV k e b 0) ∧ Below w.heap.size w w' := by
  have hq := empty_yes r hr
  have hq2 : (!r.toList.isEmpty) = false := by rw [hq]; rfl
  have K1 := Lib.hid h
  clear h hr
  go_enter Try.func26, Try.ntmps26
  go_wp2_with fail
  refine (K1.out _).mono ?_
  rintro x w2 ⟨rfl, hb2⟩
  obtain ⟨w0, hw0⟩ : ∃ w0, w0 = w.alloc (.cells #[.int .i64 0, .int .u64 0, .string ⟨#[]⟩] 51) := ⟨_, rfl⟩
  rw [← hw0] at hb2
  have hB : Below w.heap.size w w0 := by rw [hw0]; exact (Below.refl _ _).alloc (Nat.le_refl _) _
  have hlt : w.heap.size < w0.heap.size := by rw [hw0]; simp
  have hF : Frz w0 w.heap.size 0 0 ⟨#[]⟩ := by rw [hw0]; exact Frz.new _ _ _ _
  have HB2 := Lib.hid (hB.trans (hb2.mono hB.size))
  have HF2 := Lib.hid (hF.below hb2 hlt)
  have HL2 := Lib.hid (Nat.lt_of_lt_of_le hlt hb2.size)
  clear hB hlt hF hb2 hw0
  have hb3 : Below w2.heap.size w2 (w2.alloc (.cells #[.int .i64 k, .int .u64 e, .string b] 51)) := (Below.refl _ _).alloc (Nat.le_refl _) _
  have HB3 := Lib.hid (HB2.out.trans (hb3.mono HB2.out.size))
  obtain ⟨c0, c1, c2, f0, f1, f2⟩ := HF2.out.below hb3 HL2.out
  obtain ⟨d0, d1, d2, e0, e1, e2⟩ := Frz.new w2 k e b
  clear hb3
  unfold rdV
  go_wp2
  exact bodyPost_ret (v := paV k e b 0) (by simp [results, Try.results26, go_sem, paV, *]) rfl ⟨rfl, ((HB3.out.setCell (Nat.le_refl _) _).setCell (Nat.le_refl _) _).setCell (Nat.le_refl _) _⟩
end Go.Proofs.Ytlochpnifjmefaa
