/- frame.read of a frame that stands. -/
import Derived.Test.YtlochpnifjmefaaFC
namespace Go.Proofs.Ytlochpnifjmefaa
open Go.RowKit

set_option maxRecDepth 100000 in
set_option maxHeartbeats 1000000 in
theorem read_fine (s : ByteArray) (hs : 20 ≤ s.size) (hp : preS s = true) (hk : kindS s ≠ 0) (hn : lenN s ≤ 8192) (hc : lenN s + 20 ≤ s.size) (hm : okS s) (hmax : s.size ≤ 1000000000) (w : World) :
    Calls Try.prog 46 #[.string s] w fun r w' => r = .returned (rdV (kindS s) (epS s) (bodyS s) (restS s) 0) ∧ Below w.heap.size w w' := by
  have h20 : ¬ s.size < 20 := by omega
  have h3 : 3 < s.size := by omega
  have hz : ((s[3].toNat : Int) == 0) = false := by rw [← kind_at s h3, beq_eq_false_iff_ne]; omega
  have hps : (s.extract 0 (lenN s + 20)).size = lenN s + 16 + 4 := by rw [ByteArray.size_extract]; omega
  have K1 := Lib.hid (pre_call s hp)
  have K2 := Lib.hid (num_call s hs _ rfl)
  have K5 := Lib.hid (ep_call s hs _ rfl)
  have k4 := fun w => check_ok (s.extract 0 (lenN s + 20)) w (lenN s + 16) hps (by omega) ((ok_iff s hc hp).1 hm)
  have hbd := text_body s hc
  have hts : ((s.extract 0 (lenN s + 20)).extract 0 (lenN s + 16)).size = lenN s + 16 := by rw [ByteArray.size_extract, ByteArray.size_extract]; omega
  have hrest : restS s = s.extract (lenN s + 20) s.size := rfl
  rw [hrest]
  have hkk := kind_at s h3
  clear hm hps hrest hk
  generalize lenN s = n at *
  generalize (s.extract 0 (n + 20)).extract 0 (n + 16) = t at *
  have K3 := Lib.hid (fun w => size_any n (by omega) w)
  have hc' : ¬ s.size < n + 20 := by omega
  have ht16 : 16 ≤ t.size := by omega
  obtain ⟨k, hkd⟩ : ∃ k, kindS s = k := ⟨_, rfl⟩
  rw [hkd] at hkk ⊢
  rw [← hbd]
  have HKK := Lib.hid hkk
  clear hkd
  clear hbd hkk hts
  generalize hq : n + 20 = q at *
  have HQ := Lib.hid hq
  have K4 := Lib.hid k4
  clear hp k4 hq
  go_enter Try.func46, Try.ntmps46
  go_wp2_with fail
  refine (K1.out _).mono ?_
  rintro r w1 ⟨rfl, rfl⟩
  go_wp2_with fail
  refine (K2.out _).mono ?_
  rintro r w1 ⟨rfl, rfl⟩
  go_wp2_with fail
  refine (K3.out _).mono ?_
  rintro r w1 ⟨rfl, rfl⟩
  go_wp2_with fail
  refine (K4.out _).mono ?_
  rintro r w2 ⟨rfl, hb2⟩
  go_wp2_with fail
  have i12 : (12 : Int) ≤ (s.size : Int) := by omega
  have i16 : (16 : Int) ≤ (t.size : Int) := by omega
  have i3 : (3 : Int) < (s.size : Int) := by omega
  have iq : (q : Int) ≤ (s.size : Int) := by omega
  have iq0 : (0 : Int) ≤ (q : Int) := by omega
  have hwr : IntKind.i64.wrap (s[3].toNat : Int) = (k : Int) := by rw [← HKK.out]; exact IntWalk.i64_in _ (by have := s[3].toNat_lt; have := HKK.out; omega)
  obtain ⟨w0, hw0⟩ : ∃ w0, w0 = w.alloc (.cells #[.int .i64 0, .int .u64 0, .string ⟨#[]⟩] 51) := ⟨_, rfl⟩
  rw [← hw0] at hb2
  have hB : Below w.heap.size w w0 := by rw [hw0]; exact (Below.refl _ _).alloc (Nat.le_refl _) _
  have hlt : w.heap.size < w0.heap.size := by rw [hw0]; simp
  have hF : Frz w0 w.heap.size 0 0 ⟨#[]⟩ := by rw [hw0]; exact Frz.new _ _ _ _
  have HB2 := Lib.hid (hB.trans (hb2.mono hB.size))
  have HF2 := Lib.hid (hF.below hb2 hlt)
  have HL2 := Lib.hid (Nat.lt_of_lt_of_le hlt hb2.size)
  clear hs h20 hn hc hmax hc' ht16 hB hlt hF hb2 hw0
  go_region_held3 (fun w' => w2.heap.size ≤ w'.heap.size) (first | (exact Nat.le_refl _) | go_keep | (simp; omega)) (first | (go_at_call 60; refine (K5.out _).mono ?_; rintro r w5 ⟨rfl, rfl⟩))
  all_goals
    simp only [Exit.then]
    apply_assumption
    have hb3 : Below w2.heap.size w2 (w2.alloc (.cells #[.int .i64 k, .int .u64 (epS s), .string (t.extract 16 t.size)] 51)) := (Below.refl _ _).alloc (Nat.le_refl _) _
    have hF3 : Frz (w2.alloc (.cells #[.int .i64 k, .int .u64 (epS s), .string (t.extract 16 t.size)] 51)) w2.heap.size k (epS s) (t.extract 16 t.size) := Frz.new _ _ _ _
    have HB3 := Lib.hid (HB2.out.trans (hb3.mono HB2.out.size))
    obtain ⟨c0, c1, c2, f0, f1, f2⟩ := HF2.out.below hb3 HL2.out
    obtain ⟨d0, d1, d2, e0, e1, e2⟩ := hF3
    clear hb3
    generalize w2.alloc (.cells #[.int .i64 (k : Int), .int .u64 (epS s : Int), .string (t.extract 16 t.size)] 51) = wa at *
    go_wp2_with fail
    go_region
    all_goals
      go_wp2
      refine bodyPost_ret (v := rdV k (epS s) (t.extract 16 t.size) (s.extract q s.size) 0) (by simp [results, Try.results46, go_sem, rdV, *]) rfl ⟨rfl, ?_⟩
      first | exact (((HB3.out.setCell (Nat.le_refl _) _).setCell (Nat.le_refl _) _).setCell (Nat.le_refl _) _).drew.drew | exact (((HB3.out.setCell (Nat.le_refl _) _).setCell (Nat.le_refl _) _).setCell (Nat.le_refl _) _).drew | exact (((HB3.out.setCell (Nat.le_refl _) _).setCell (Nat.le_refl _) _).setCell (Nat.le_refl _) _)

/-- What reading a text answers. -/
theorem read_any (s : ByteArray) (hmax : s.size ≤ 1000000000) (w : World) :
    Calls Try.prog 46 #[.string s] w fun r w' => r = .returned (rdV (rK s) (rE s) (rB s) (rR s) (codeS s)) ∧ Below w.heap.size w w' := by
  by_cases h1 : s.size < 20
  · have hc : codeS s = 3 := by unfold codeS; rw [if_pos h1]
    obtain ⟨a, b, c, d, _⟩ := r_bad (s := s) (by omega)
    rw [a, b, c, d, hc]; exact read_short s h1 w
  by_cases h2 : preS s = false
  · have hc : codeS s = 4 := by unfold codeS; rw [if_neg h1, if_pos h2]
    obtain ⟨a, b, c, d, _⟩ := r_bad (s := s) (by omega)
    rw [a, b, c, d, hc]; exact read_form s (by omega) h2 w
  by_cases h3 : kindS s = 0
  · have hc : codeS s = 10 := by unfold codeS; rw [if_neg h1, if_neg h2, if_pos h3]
    obtain ⟨a, b, c, d, _⟩ := r_bad (s := s) (by omega)
    rw [a, b, c, d, hc]; exact read_kind s (by omega) (by simpa using h2) h3 w
  by_cases h4 : 8192 < lenN s
  · have hc : codeS s = 5 := by unfold codeS; rw [if_neg h1, if_neg h2, if_neg h3, if_pos h4]
    obtain ⟨a, b, c, d, _⟩ := r_bad (s := s) (by omega)
    rw [a, b, c, d, hc]; exact read_long s (by omega) (by simpa using h2) h3 h4 w
  by_cases h5 : s.size < lenN s + 20
  · have hc : codeS s = 3 := by unfold codeS; rw [if_neg h1, if_neg h2, if_neg h3, if_neg h4, if_pos h5]
    obtain ⟨a, b, c, d, _⟩ := r_bad (s := s) (by omega)
    rw [a, b, c, d, hc]; exact read_cut s (by omega) (by simpa using h2) h3 (by omega) h5 w
  by_cases h6 : okS s
  · have hc : codeS s = 0 := by unfold codeS; rw [if_neg h1, if_neg h2, if_neg h3, if_neg h4, if_neg h5, if_pos h6]
    obtain ⟨a, b, c, d, _⟩ := r_ok hc
    rw [a, b, c, d, hc]; exact read_fine s (by omega) (by simpa using h2) h3 (by omega) (by omega) h6 hmax w
  · have hc : codeS s = 9 := by unfold codeS; rw [if_neg h1, if_neg h2, if_neg h3, if_neg h4, if_neg h5, if_neg h6]
    obtain ⟨a, b, c, d, _⟩ := r_bad (s := s) (by omega)
    rw [a, b, c, d, hc]; exact read_sum s (by omega) (by simpa using h2) h3 (by omega) (by omega) h6 hmax w
end Go.Proofs.Ytlochpnifjmefaa
