/- frame.read of a frame that stands.; frame.Next, frame.Parse, out of what frame.read answers.; frame.Next and frame.Parse of any text; what is read of a frame, and of one that is turned. -/
import Derived.Test.YtdojepkmjifoeaaJ07
set_option linter.unusedVariables false
set_option linter.unusedSimpArgs false
namespace Go.Proofs.Ytdojepkmjifoeaa
open Go.RowKit

set_option maxRecDepth 100000 in
set_option maxHeartbeats 1000000 in
theorem read_fine (s : ByteArray) (hs : 20 ≤ s.size) (hp : preS s = true) (hk : kindS s ≠ 0) (hn : lenN s ≤ 8192) (hc : lenN s + 20 ≤ s.size) (hm : okS s) (hmax : s.size ≤ 1000000000) (w : World) :
    Calls Try.prog 49 #[.string s] w fun r w' => r = .returned (rdV (kindS s) (epS s) (bodyS s) (restS s) 0) ∧ Below w.heap.size w w' := by
  have h20 : ¬ s.size < 20 := by omega
  have h3 : 3 < s.size := by omega
  have hz : ((s[3].toNat : Int) == 0) = false := by rw [← kind_at s h3, beq_eq_false_iff_ne]; omega
  have hps : (s.extract 0 (lenN s + 20)).size = lenN s + 16 + 4 := by rw [ByteArray.size_extract]; omega
  have K1 := Lib.hid (pre_call s hp)
  have K2 := Lib.hid (num_call s hs _ rfl)
  have K5 := Lib.hid (ep_call s hs _ rfl)
  have k4 := fun w => check_ok (s.extract 0 (lenN s + 20)) w (lenN s + 16) hps (by omega) ((ok_iff s hc hp).1 hm)
  have hbd := text_body s hc
  have hts : ((s.extract 0 (lenN s + 20)).extract 0 (lenN s + 16)).size = lenN s + 16 := by rw [ByteArray.size_extract, ByteArray.size_extract]; omega
  have hrest : restS s = s.extract (lenN s + 20) s.size := rfl
  rw [hrest]
  have hkk := kind_at s h3
  clear hm hps hrest hk
  generalize lenN s = n at *
  generalize (s.extract 0 (n + 20)).extract 0 (n + 16) = t at *
  have K3 := Lib.hid (fun w => size_any n (by omega) w)
  have hc' : ¬ s.size < n + 20 := by omega
  have ht16 : 16 ≤ t.size := by omega
  obtain ⟨k, hkd⟩ : ∃ k, kindS s = k := ⟨_, rfl⟩
  rw [hkd] at hkk ⊢
  rw [← hbd]
  have HKK := Lib.hid hkk
  clear hkd
  clear hbd hkk hts
  generalize hq : n + 20 = q at *
  have HQ := Lib.hid hq
  have K4 := Lib.hid k4
  clear hp k4 hq
  go_enter Try.func49, Try.ntmps49
  go_wp2_with fail
  refine (K1.out _).mono ?_
  rintro r w1 ⟨rfl, rfl⟩
  go_wp2_with fail
  refine (K2.out _).mono ?_
  rintro r w1 ⟨rfl, rfl⟩
  go_wp2_with fail
  refine (K3.out _).mono ?_
  rintro r w1 ⟨rfl, rfl⟩
  go_wp2_with fail
  refine (K4.out _).mono ?_
  rintro r w2 ⟨rfl, hb2⟩
  go_wp2_with fail
  have i12 : (12 : Int) ≤ (s.size : Int) := by omega
  have i16 : (16 : Int) ≤ (t.size : Int) := by omega
  have i3 : (3 : Int) < (s.size : Int) := by omega
  have iq : (q : Int) ≤ (s.size : Int) := by omega
  have iq0 : (0 : Int) ≤ (q : Int) := by omega
  have hwr : IntKind.i64.wrap (s[3].toNat : Int) = (k : Int) := by rw [← HKK.out]; exact IntWalk.i64_in _ (by have := s[3].toNat_lt; have := HKK.out; omega)
  obtain ⟨w0, hw0⟩ : ∃ w0, w0 = w.alloc (.cells #[.int .i64 0, .int .u64 0, .string ⟨#[]⟩] 57) := ⟨_, rfl⟩
  rw [← hw0] at hb2
  have hB : Below w.heap.size w w0 := by rw [hw0]; exact (Below.refl _ _).alloc (Nat.le_refl _) _
  have hlt : w.heap.size < w0.heap.size := by rw [hw0]; simp
  have hF : Frz w0 w.heap.size 0 0 ⟨#[]⟩ := by rw [hw0]; exact Frz.new _ _ _ _
  have HB2 := Lib.hid (hB.trans (hb2.mono hB.size))
  have HF2 := Lib.hid (hF.below hb2 hlt)
  have HL2 := Lib.hid (Nat.lt_of_lt_of_le hlt hb2.size)
  clear hs h20 hn hc hmax hc' ht16 hB hlt hF hb2 hw0
  go_region_held3 (fun w' => w2.heap.size ≤ w'.heap.size) (first | (exact Nat.le_refl _) | go_keep | (simp; omega)) (first | (go_at_call 69; refine (K5.out _).mono ?_; rintro r w5 ⟨rfl, rfl⟩))
  all_goals
    simp only [Exit.then]
    apply_assumption
    have hb3 : Below w2.heap.size w2 (w2.alloc (.cells #[.int .i64 k, .int .u64 (epS s), .string (t.extract 16 t.size)] 57)) := (Below.refl _ _).alloc (Nat.le_refl _) _
    have hF3 : Frz (w2.alloc (.cells #[.int .i64 k, .int .u64 (epS s), .string (t.extract 16 t.size)] 57)) w2.heap.size k (epS s) (t.extract 16 t.size) := Frz.new _ _ _ _
    have HB3 := Lib.hid (HB2.out.trans (hb3.mono HB2.out.size))
    obtain ⟨c0, c1, c2, f0, f1, f2⟩ := HF2.out.below hb3 HL2.out
    obtain ⟨d0, d1, d2, e0, e1, e2⟩ := hF3
    clear hb3
    generalize w2.alloc (.cells #[.int .i64 (k : Int), .int .u64 (epS s : Int), .string (t.extract 16 t.size)] 57) = wa at *
    go_wp2_with fail
    go_region
    all_goals
      go_wp2
      refine bodyPost_ret (v := rdV k (epS s) (t.extract 16 t.size) (s.extract q s.size) 0) (by simp [results, Try.results49, go_sem, rdV, *]) rfl ⟨rfl, ?_⟩
      first | exact (((HB3.out.setCell (Nat.le_refl _) _).setCell (Nat.le_refl _) _).setCell (Nat.le_refl _) _).drew.drew | exact (((HB3.out.setCell (Nat.le_refl _) _).setCell (Nat.le_refl _) _).setCell (Nat.le_refl _) _).drew | exact (((HB3.out.setCell (Nat.le_refl _) _).setCell (Nat.le_refl _) _).setCell (Nat.le_refl _) _)

/-- What reading a text answers. -/
theorem read_any (s : ByteArray) (hmax : s.size ≤ 1000000000) (w : World) :
    Calls Try.prog 49 #[.string s] w fun r w' => r = .returned (rdV (rK s) (rE s) (rB s) (rR s) (codeS s)) ∧ Below w.heap.size w w' := by
  by_cases h1 : s.size < 20
  · have hc : codeS s = 3 := by unfold codeS; rw [if_pos h1]
    obtain ⟨a, b, c, d, _⟩ := r_bad (s := s) (by omega)
    rw [a, b, c, d, hc]; exact read_short s h1 w
  by_cases h2 : preS s = false
  · have hc : codeS s = 4 := by unfold codeS; rw [if_neg h1, if_pos h2]
    obtain ⟨a, b, c, d, _⟩ := r_bad (s := s) (by omega)
    rw [a, b, c, d, hc]; exact read_form s (by omega) h2 w
  by_cases h3 : kindS s = 0
  · have hc : codeS s = 10 := by unfold codeS; rw [if_neg h1, if_neg h2, if_pos h3]
    obtain ⟨a, b, c, d, _⟩ := r_bad (s := s) (by omega)
    rw [a, b, c, d, hc]; exact read_kind s (by omega) (by simpa using h2) h3 w
  by_cases h4 : 8192 < lenN s
  · have hc : codeS s = 5 := by unfold codeS; rw [if_neg h1, if_neg h2, if_neg h3, if_pos h4]
    obtain ⟨a, b, c, d, _⟩ := r_bad (s := s) (by omega)
    rw [a, b, c, d, hc]; exact read_long s (by omega) (by simpa using h2) h3 h4 w
  by_cases h5 : s.size < lenN s + 20
  · have hc : codeS s = 3 := by unfold codeS; rw [if_neg h1, if_neg h2, if_neg h3, if_neg h4, if_pos h5]
    obtain ⟨a, b, c, d, _⟩ := r_bad (s := s) (by omega)
    rw [a, b, c, d, hc]; exact read_cut s (by omega) (by simpa using h2) h3 (by omega) h5 w
  by_cases h6 : okS s
  · have hc : codeS s = 0 := by unfold codeS; rw [if_neg h1, if_neg h2, if_neg h3, if_neg h4, if_neg h5, if_pos h6]
    obtain ⟨a, b, c, d, _⟩ := r_ok hc
    rw [a, b, c, d, hc]; exact read_fine s (by omega) (by simpa using h2) h3 (by omega) (by omega) h6 hmax w
  · have hc : codeS s = 9 := by unfold codeS; rw [if_neg h1, if_neg h2, if_neg h3, if_neg h4, if_neg h5, if_neg h6]
    obtain ⟨a, b, c, d, _⟩ := r_bad (s := s) (by omega)
    rw [a, b, c, d, hc]; exact read_sum s (by omega) (by simpa using h2) h3 (by omega) (by omega) h6 hmax w
end Go.Proofs.Ytdojepkmjifoeaa

namespace Go.Proofs.Ytdojepkmjifoeaa
open Go.RowKit

/-- What Parse answers. -/
def paV (k e : Nat) (b : ByteArray) (c : Nat) : Value := .tuple #[.agg #[.int .i64 (k : Int), .int .u64 (e : Int), .string b], .int .i64 (c : Int)]

set_option maxHeartbeats 1000000 in
theorem parse_bad (s : ByteArray) (c : Nat) (hc0 : c ≠ 0) (_hc : c < 1000)
    (h : ∀ w, Calls Try.prog 49 #[.string s] w fun x w' => x = .returned (rdV 0 0 ⟨#[]⟩ ⟨#[]⟩ c) ∧ Below w.heap.size w w') (w : World) :
    Calls Try.prog 24 #[.string s] w fun x w' => x = .returned (paV 0 0 ⟨#[]⟩ c) ∧ Below w.heap.size w w' := by
  have hq : ((c : Int) != 0) = true := by simp; omega
  have K1 := Lib.hid h
  clear h hc0
  go_enter Try.func24, Try.ntmps24
  go_wp2_with fail
  refine (K1.out _).mono ?_
  rintro x w2 ⟨rfl, hb2⟩
  obtain ⟨w0, hw0⟩ : ∃ w0, w0 = w.alloc (.cells #[.int .i64 0, .int .u64 0, .string ⟨#[]⟩] 57) := ⟨_, rfl⟩
  rw [← hw0] at hb2
  have hB : Below w.heap.size w w0 := by rw [hw0]; exact (Below.refl _ _).alloc (Nat.le_refl _) _
  have hlt : w.heap.size < w0.heap.size := by rw [hw0]; simp
  have hF : Frz w0 w.heap.size 0 0 ⟨#[]⟩ := by rw [hw0]; exact Frz.new _ _ _ _
  have HB2 := Lib.hid (hB.trans (hb2.mono hB.size))
  have HF2 := Lib.hid (hF.below hb2 hlt)
  have HL2 := Lib.hid (Nat.lt_of_lt_of_le hlt hb2.size)
  clear hB hlt hF hb2 hw0
  have hb3 : Below w2.heap.size w2 (w2.alloc (.cells #[.int .i64 0, .int .u64 0, .string ⟨#[]⟩] 57)) := (Below.refl _ _).alloc (Nat.le_refl _) _
  have HB3 := Lib.hid (HB2.out.trans (hb3.mono HB2.out.size))
  obtain ⟨c0, c1, c2, f0, f1, f2⟩ := HF2.out.below hb3 HL2.out
  clear hb3
  unfold rdV
  go_wp2
  exact bodyPost_ret (v := paV 0 0 ⟨#[]⟩ c) (by simp [results, Try.results24, go_sem, paV, *]) rfl ⟨rfl, ((HB3.out.setCell (Nat.le_refl _) _).setCell (Nat.le_refl _) _).setCell (Nat.le_refl _) _⟩

set_option maxHeartbeats 1000000 in
theorem parse_form (s : ByteArray) (k e : Nat) (b r : ByteArray) (hr : 1 ≤ r.size)
    (h : ∀ w, Calls Try.prog 49 #[.string s] w fun x w' => x = .returned (rdV k e b r 0) ∧ Below w.heap.size w w') (w : World) :
    Calls Try.prog 24 #[.string s] w fun x w' => x = .returned (paV 0 0 ⟨#[]⟩ 4) ∧ Below w.heap.size w w' := by
  have hq := empty_no r hr
  have hq2 : (!r.toList.isEmpty) = true := by rw [hq]; rfl
  have K1 := Lib.hid h
  clear h hr
  go_enter Try.func24, Try.ntmps24
  go_wp2_with fail
  refine (K1.out _).mono ?_
  rintro x w2 ⟨rfl, hb2⟩
  obtain ⟨w0, hw0⟩ : ∃ w0, w0 = w.alloc (.cells #[.int .i64 0, .int .u64 0, .string ⟨#[]⟩] 57) := ⟨_, rfl⟩
  rw [← hw0] at hb2
  have hB : Below w.heap.size w w0 := by rw [hw0]; exact (Below.refl _ _).alloc (Nat.le_refl _) _
  have hlt : w.heap.size < w0.heap.size := by rw [hw0]; simp
  have hF : Frz w0 w.heap.size 0 0 ⟨#[]⟩ := by rw [hw0]; exact Frz.new _ _ _ _
  have HB2 := Lib.hid (hB.trans (hb2.mono hB.size))
  have HF2 := Lib.hid (hF.below hb2 hlt)
  have HL2 := Lib.hid (Nat.lt_of_lt_of_le hlt hb2.size)
  clear hB hlt hF hb2 hw0
  have hb3 : Below w2.heap.size w2 (w2.alloc (.cells #[.int .i64 k, .int .u64 e, .string b] 57)) := (Below.refl _ _).alloc (Nat.le_refl _) _
  have HB3 := Lib.hid (HB2.out.trans (hb3.mono HB2.out.size))
  obtain ⟨c0, c1, c2, f0, f1, f2⟩ := HF2.out.below hb3 HL2.out
  clear hb3
  unfold rdV
  go_wp2
  exact bodyPost_ret (v := paV 0 0 ⟨#[]⟩ 4) (by simp [results, Try.results24, go_sem, paV, *]) rfl ⟨rfl, ((HB3.out.setCell (Nat.le_refl _) _).setCell (Nat.le_refl _) _).setCell (Nat.le_refl _) _⟩
set_option maxHeartbeats 1000000 in
theorem parse_fine (s : ByteArray) (k e : Nat) (b r : ByteArray) (hr : r.size = 0)
    (h : ∀ w, Calls Try.prog 49 #[.string s] w fun x w' => x = .returned (rdV k e b r 0) ∧ Below w.heap.size w w') (w : World) :
    Calls Try.prog 24 #[.string s] w fun x w' => x = .returned (paV k e b 0) ∧ Below w.heap.size w w' := by
  have hq := empty_yes r hr
  have hq2 : (!r.toList.isEmpty) = false := by rw [hq]; rfl
  have K1 := Lib.hid h
  clear h hr
  go_enter Try.func24, Try.ntmps24
  go_wp2_with fail
  refine (K1.out _).mono ?_
  rintro x w2 ⟨rfl, hb2⟩
  obtain ⟨w0, hw0⟩ : ∃ w0, w0 = w.alloc (.cells #[.int .i64 0, .int .u64 0, .string ⟨#[]⟩] 57) := ⟨_, rfl⟩
  rw [← hw0] at hb2
  have hB : Below w.heap.size w w0 := by rw [hw0]; exact (Below.refl _ _).alloc (Nat.le_refl _) _
  have hlt : w.heap.size < w0.heap.size := by rw [hw0]; simp
  have hF : Frz w0 w.heap.size 0 0 ⟨#[]⟩ := by rw [hw0]; exact Frz.new _ _ _ _
  have HB2 := Lib.hid (hB.trans (hb2.mono hB.size))
  have HF2 := Lib.hid (hF.below hb2 hlt)
  have HL2 := Lib.hid (Nat.lt_of_lt_of_le hlt hb2.size)
  clear hB hlt hF hb2 hw0
  have hb3 : Below w2.heap.size w2 (w2.alloc (.cells #[.int .i64 k, .int .u64 e, .string b] 57)) := (Below.refl _ _).alloc (Nat.le_refl _) _
  have HB3 := Lib.hid (HB2.out.trans (hb3.mono HB2.out.size))
  obtain ⟨c0, c1, c2, f0, f1, f2⟩ := HF2.out.below hb3 HL2.out
  obtain ⟨d0, d1, d2, e0, e1, e2⟩ := Frz.new w2 k e b
  clear hb3
  unfold rdV
  go_wp2
  exact bodyPost_ret (v := paV k e b 0) (by simp [results, Try.results24, go_sem, paV, *]) rfl ⟨rfl, ((HB3.out.setCell (Nat.le_refl _) _).setCell (Nat.le_refl _) _).setCell (Nat.le_refl _) _⟩
end Go.Proofs.Ytdojepkmjifoeaa

namespace Go.Proofs.Ytdojepkmjifoeaa
open Go.RowKit

theorem rest_size (s : ByteArray) : (rR s).size ≤ s.size := by
  unfold rR; split
  · unfold restS; rw [ByteArray.size_extract]; omega
  · exact Nat.zero_le _
/-- What Parse answers: the error, the frame. -/
def codeP (s : ByteArray) : Nat := if codeS s = 0 then (if (rR s).size = 0 then 0 else 4) else codeS s
def pK (s : ByteArray) : Nat := if codeP s = 0 then rK s else 0
def pE (s : ByteArray) : Nat := if codeP s = 0 then rE s else 0
def pB (s : ByteArray) : ByteArray := if codeP s = 0 then rB s else ⟨#[]⟩
theorem code_lt (s : ByteArray) : codeS s < 1000 := by
  unfold codeS; repeat' split
  all_goals omega
theorem parse_any (s : ByteArray) (hmax : s.size ≤ 1000000000) (w : World) :
    Calls Try.prog 24 #[.string s] w fun r w' => r = .returned (paV (pK s) (pE s) (pB s) (codeP s)) ∧ Below w.heap.size w w' := by
  have hr := read_any s hmax
  have hlt := code_lt s
  by_cases h1 : codeS s = 0
  · by_cases h2 : (rR s).size = 0
    · have hc : codeP s = 0 := by unfold codeP; rw [if_pos h1, if_pos h2]
      unfold pK pE pB
      rw [if_pos hc, if_pos hc, if_pos hc, hc]
      rw [h1] at hr
      exact parse_fine s _ _ _ _ h2 hr w
    · have hc : codeP s = 4 := by unfold codeP; rw [if_pos h1, if_neg h2]
      unfold pK pE pB
      rw [if_neg (by omega), if_neg (by omega), if_neg (by omega), hc]
      rw [h1] at hr
      exact parse_form s _ _ _ _ (by omega) hr w
  · have hc : codeP s = codeS s := by unfold codeP; rw [if_neg h1]
    unfold pK pE pB
    rw [if_neg (by omega), if_neg (by omega), if_neg (by omega), hc]
    obtain ⟨a, b, c, d, _⟩ := r_bad h1
    rw [a, b, c, d] at hr
    exact parse_bad s _ h1 hlt hr w

theorem mid_list (A B C : List UInt8) (a n : Nat) (ha : A.length = a) (hn : B.length = n) : ((A ++ (B ++ C)).drop a).take n = B := by
  subst ha hn; simp
/-- What begins with a frame is read so. -/
theorem read_frame (k e : Nat) (b : ByteArray) (r : List UInt8) (h1 : 1 ≤ k) (h2 : k ≤ 255) (he : e ≤ 18446744073709551615) (hb : b.size ≤ 8192) (s : ByteArray) (hs : s = str (frameL k e b.data.toList ++ r)) :
    codeS s = 0 ∧ kindS s = k ∧ epS s = e ∧ bodyS s = b ∧ restS s = str r ∧ lenN s = b.size := by
  have hbl : b.data.toList.length = b.size := by simp
  obtain ⟨L4, hL4⟩ : ∃ L4, L4 = le4 (crcV (hdr k e b.size ++ b.data.toList)) := ⟨_, rfl⟩
  have hl : s.data.toList = [79, 70, 1] ++ (be k 1 ++ (be e 8 ++ (be b.size 4 ++ (b.data.toList ++ (L4 ++ r))))) := by
    rw [hs, data_str, hL4]; simp [frameL, markL, hdr]
  have hz : s.size = b.size + 20 + r.length := by rw [hs, size_str]; simp [frameL_length]
  have l1 := be_length k 1
  have l2 := be_length e 8
  have l3 := be_length b.size 4
  have l4 : L4.length = 4 := by rw [hL4]; rfl
  have g2 := gt_be 8 e (by have : (256 : Nat) ^ 8 = 18446744073709551616 := by rfl
                           omega)
  have g3 := gt_be 4 b.size (by omega)
  have hn : lenN s = b.size := by
    unfold lenN; rw [ext_list, hl]
    have h := mid_list ([79, 70, 1] ++ (be k 1 ++ be e 8)) (be b.size 4) (b.data.toList ++ (L4 ++ r)) 12 4 (by simp [l1, l2]) l3
    simp only [List.append_assoc] at h
    rw [h]; exact g3
  have hep : epS s = e := by
    unfold epS; rw [ext_list, hl]
    have h := mid_list ([79, 70, 1] ++ be k 1) (be e 8) (be b.size 4 ++ (b.data.toList ++ (L4 ++ r))) 4 8 (by simp [l1]) l2
    simp only [List.append_assoc] at h
    rw [h]; exact g2
  have hk : kindS s = k := by
    unfold kindS; rw [hl, be_one]
    show (UInt8.ofNat k).toNat = k
    rw [UInt8.toNat_ofNat', Nat.mod_eq_of_lt (by omega)]
  have hbd : bodyS s = b := by
    unfold bodyS
    apply ByteArray.ext
    apply Array.ext'
    rw [ext_list, hn, hl]
    have h := mid_list ([79, 70, 1] ++ (be k 1 ++ (be e 8 ++ be b.size 4))) b.data.toList (L4 ++ r) 16 b.size (by simp [l1, l2, l3]) hbl
    simp only [List.append_assoc] at h
    rw [show b.size + 16 - 16 = b.size by omega]; exact h
  have hrs : restS s = str r := by
    unfold restS
    apply ByteArray.ext
    apply Array.ext'
    rw [ext_list, hn, hl, data_str]
    have h := mid_list ([79, 70, 1] ++ (be k 1 ++ (be e 8 ++ (be b.size 4 ++ (b.data.toList ++ L4))))) r [] (b.size + 20) r.length (by simp [l1, l2, l3, l4, hbl]; omega) rfl
    simp only [List.append_assoc, List.append_nil] at h
    rw [show s.size - (b.size + 20) = r.length by omega]; exact h
  refine ⟨?_, hk, hep, hbd, hrs, hn⟩
  have hp : preS s = true := by
    unfold preS; rw [pre_iff, hl]; rfl
  have hok : okS s := by
    unfold okS
    rw [hn, hk, hep, hbd, hs, data_str]
    have h := mid_list [] (frameL k e b.data.toList) r 0 (b.size + 20) rfl (by rw [frameL_length, hbl])
    simpa using h
  unfold codeS
  rw [if_neg (by omega), if_neg (by rw [hp]; simp), if_neg (by omega), if_neg (by omega), if_neg (by omega), if_pos hok]

/-- What is read whole is marked. -/
theorem parse_marked (s : ByteArray) (h : codeP s = 0) : ∃ t : List UInt8, s.data.toList = markL t := by
  unfold codeP at h
  by_cases h1 : codeS s = 0
  · rw [if_pos h1] at h
    by_cases h2 : (rR s).size = 0
    · obtain ⟨_, _, _, _, _, h20, hok⟩ := code_ok h1
      rw [(r_ok h1).2.2.2.1] at h2
      unfold restS at h2
      rw [ByteArray.size_extract] at h2
      have hl : s.data.toList.length = s.size := by simp
      have e : s.data.toList.take (lenN s + 20) = s.data.toList := List.take_of_length_le (by omega)
      unfold okS at hok
      rw [e] at hok
      exact ⟨_, hok⟩
    · rw [if_neg h2] at h; omega
  · rw [if_neg h1] at h; omega
/-- A frame is read as it was. -/
theorem parse_frame (k e : Nat) (b : ByteArray) (h1 : 1 ≤ k) (h2 : k ≤ 255) (he : e ≤ 18446744073709551615) (hb : b.size ≤ 8192) (s : ByteArray) (hs : s = str (frameL k e b.data.toList)) :
    codeP s = 0 ∧ pK s = k ∧ pE s = e ∧ pB s = b := by
  obtain ⟨c, q1, q2, q3, q4, q5⟩ := read_frame k e b [] h1 h2 he hb s (by rw [hs]; simp)
  obtain ⟨r1, r2, r3, r4, _⟩ := r_ok c
  have hP : codeP s = 0 := by
    unfold codeP
    rw [if_pos c, r4, q4, if_pos (by rfl)]
  unfold pK pE pB
  rw [if_pos hP, if_pos hP, if_pos hP, r1, r2, r3]
  exact ⟨hP, q1, q2, q3⟩
end Go.Proofs.Ytdojepkmjifoeaa
