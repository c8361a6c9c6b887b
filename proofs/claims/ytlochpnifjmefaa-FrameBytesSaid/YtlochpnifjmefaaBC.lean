/- The law FrameBytes of any frame and any text, walked. -/
import Derived.Test.YtlochpnifjmefaaBB
import Derived.Test.YtlochpnifjmefaaRP
namespace Go.Proofs.Ytlochpnifjmefaa
open Go.RowKit

theorem fb_great (k : Int) (e : Nat) (b s : ByteArray) (hg : 9000 < b.size ∨ 9000 < s.size) (w : World) :
    Calls Try.prog 5 #[.agg #[.int .i64 k, .int .u64 e, .string b], .string s] w fun e w' => e = .returned (.bool true) ∧ Below w.heap.size w w' := by
  have hmx : max (b.size : Int) (s.size : Int) > 9000 := by omega
  clear hg
  obtain ⟨w0, hw0⟩ : ∃ w0, w0 = w.alloc (.cells #[.int .i64 (k : Int), .int .u64 (e : Int), .string b] 51) := ⟨_, rfl⟩
  have HB := Lib.hid (show Below w.heap.size w w0 by rw [hw0]; exact alloc_below _ _)
  have HF := Lib.hid (show Fr w0 w.heap.size k e b by rw [hw0]; exact Fr.new _ _ _ _)
  have HLT := Lib.hid (show w.heap.size < w0.heap.size by rw [hw0]; exact alloc_lt _ _)
  go_enter Try.func5, Try.ntmps5
  go_wp2_with fail
  rw [← hw0]
  clear hw0
  refine (awake8_any _).mono ?_
  rintro r w1 ⟨rfl, hb1⟩
  have HB1 := Lib.hid (HB.out.trans (hb1.mono HB.out.size))
  obtain ⟨f0, f1, f2⟩ := HF.out.below hb1 HLT.out
  clear hb1
  go_wp2
  go_ret
  exact ⟨rfl, HB1.out⟩

/-- What the law finds out of a text: one of three. -/
theorem tail_cases (s : ByteArray) (hs : s.size ≤ 9000) (P : Prop)
    (bad : ∀ c : Nat, c ≠ 0 →
      (∀ w, Calls Try.prog 25 #[.string s] w fun r w' => r = .returned (rdV 0 0 ⟨#[]⟩ ⟨#[]⟩ c) ∧ Below w.heap.size w w') →
      (∀ w, Calls Try.prog 26 #[.string s] w fun r w' => r = .returned (paV 0 0 ⟨#[]⟩ c) ∧ Below w.heap.size w w') →
      (∀ w, Calls Try.prog 28 #[.string s] w fun r w' => r = .returned (rnV 0 0 ⟨#[]⟩ 0 c) ∧ Below w.heap.size w w') → P)
    (more : ∀ (k1 e1 n : Nat) (b1 : ByteArray), n < s.size →
      (∀ w, Calls Try.prog 25 #[.string s] w fun r w' => r = .returned (rdV k1 e1 b1 (s.extract n s.size) 0) ∧ Below w.heap.size w w') →
      (∀ w, Calls Try.prog 26 #[.string s] w fun r w' => r = .returned (paV 0 0 ⟨#[]⟩ 4) ∧ Below w.heap.size w w') →
      (∀ w, Calls Try.prog 28 #[.string s] w fun r w' => r = .returned (rnV k1 e1 b1 n 0) ∧ Below w.heap.size w w') → P)
    (whole : ∀ (k1 e1 n : Nat) (b1 : ByteArray), n = s.size →
      (∀ w, Calls Try.prog 25 #[.string s] w fun r w' => r = .returned (rdV k1 e1 b1 ⟨#[]⟩ 0) ∧ Below w.heap.size w w') →
      (∀ w, Calls Try.prog 26 #[.string s] w fun r w' => r = .returned (paV k1 e1 b1 0) ∧ Below w.heap.size w w') →
      (∀ w, Calls Try.prog 28 #[.string s] w fun r w' => r = .returned (rnV k1 e1 b1 n 0) ∧ Below w.heap.size w w') → P) : P := by
  have h3 := next_any s (by omega)
  have h4 := parse_any s (by omega)
  have h5 := rnext_any s
  by_cases hc : codeS s = 0
  · obtain ⟨_, _, _, _, _, hle, _⟩ := code_ok hc
    obtain ⟨r1, r2, r3, r4, r5⟩ := r_ok hc
    have hrs : restS s = s.extract (lenN s + 20) s.size := rfl
    have hz : (restS s).size = s.size - (lenN s + 20) := by rw [hrs, ByteArray.size_extract]; omega
    by_cases hn : lenN s + 20 < s.size
    · have hp : codeP s = 4 := by
        unfold codeP
        rw [if_pos hc, if_neg (by rw [r4, hz]; omega)]
      have q1 : pK s = 0 := by unfold pK; rw [if_neg (by omega)]
      have q2 : pE s = 0 := by unfold pE; rw [if_neg (by omega)]
      have q3 : pB s = ⟨#[]⟩ := by unfold pB; rw [if_neg (by omega)]
      rw [hc] at h3 h5
      rw [hp, q1, q2, q3] at h4
      rw [r4, hrs] at h3
      rw [r5] at h5
      exact more _ _ _ _ hn h3 h4 h5
    · have hp : codeP s = 0 := by
        unfold codeP
        rw [if_pos hc, r4, hz, if_pos (by omega)]
      have q1 : pK s = rK s := by unfold pK; rw [if_pos hp]
      have q2 : pE s = rE s := by unfold pE; rw [if_pos hp]
      have q3 : pB s = rB s := by unfold pB; rw [if_pos hp]
      have hr : rR s = ⟨#[]⟩ := by
        rw [r4]
        exact size_zero (by rw [hz]; omega)
      rw [hc] at h3 h5
      rw [hp, q1, q2, q3] at h4
      rw [hr] at h3
      rw [r5] at h5
      exact whole _ _ _ _ (by omega) h3 h4 h5
  · obtain ⟨r1, r2, r3, r4, r5⟩ := r_bad hc
    have hp : codeP s = codeS s := by unfold codeP; rw [if_neg hc]
    have q1 : pK s = 0 := by unfold pK; rw [if_neg (by omega)]
    have q2 : pE s = 0 := by unfold pE; rw [if_neg (by omega)]
    have q3 : pB s = ⟨#[]⟩ := by unfold pB; rw [if_neg (by omega)]
    rw [r1, r2, r3, r4] at h3
    rw [r1, r2, r3, r5] at h5
    rw [hp, q1, q2, q3] at h4
    exact bad _ hc h3 h4 h5

theorem fb_no (k : Int) (e : Nat) (b s : ByteArray) (c0 : Nat) (hb : b.size ≤ 9000) (hs : s.size ≤ 9000) (hc0 : c0 ≠ 0)
    (k1 : ∀ w, Calls Try.prog 23 #[.agg #[.int .i64 k, .int .u64 e, .string b]] w fun r w' => r = .returned (.tuple #[.string ⟨#[]⟩, .int .i64 c0]) ∧ Below w.heap.size w w')
    (k2 : ∀ w, Calls Try.prog 24 #[.agg #[.int .i64 k, .int .u64 e, .string b]] w fun r w' => r = .returned (.tuple #[.string ⟨#[]⟩, .int .i64 c0]) ∧ Below w.heap.size w w') (w : World) :
    Calls Try.prog 5 #[.agg #[.int .i64 k, .int .u64 e, .string b], .string s] w fun e w' => e = .returned (.bool true) ∧ Below w.heap.size w w' :=
  tail_cases s hs _
    (fun c hc k3 k4 k5 => fb_no_bad k e b s _ c0 hb hs hc0 c hc k1 k2 k3 k4 k5 w)
    (fun a1 a2 n a3 hn k3 k4 k5 => fb_no_more k e b s _ c0 hb hs hc0 a1 a2 n a3 hn k1 k2 k3 k4 k5 w)
    (fun a1 a2 n a3 hn k3 k4 k5 => fb_no_whole k e b s _ c0 hb hs hc0 a1 a2 n a3 hn k1 k2 k3 k4 k5 w)

theorem fb_yes (k e : Nat) (b s : ByteArray) (h1 : 1 ≤ k) (h2 : k ≤ 255) (he : e ≤ 18446744073709551615) (hb : b.size ≤ 8192) (hs : s.size ≤ 9000) (w : World) :
    Calls Try.prog 5 #[.agg #[.int .i64 k, .int .u64 e, .string b], .string s] w fun e w' => e = .returned (.bool true) ∧ Below w.heap.size w w' := by
  have k1 := fun w => bytes_ok k e b h1 h2 he hb w
  have k2 := fun w => rbytes_ok k e b h1 h2 he hb w
  obtain ⟨Fl, hFl⟩ : ∃ Fl, Fl = frameL k e b.data.toList := ⟨_, rfl⟩
  have hlen : Fl.length = b.size + 20 := by rw [hFl, frameL_length]; simp
  have hsl : s.data.toList.length = s.size := by simp
  have htz : (str Fl).size = b.size + 20 := by rw [size_str, hlen]
  obtain ⟨c6, q1, q2, q3, q4, _⟩ := read_frame k e b s.data.toList h1 h2 he hb (str (Fl ++ s.data.toList)) (by rw [hFl])
  obtain ⟨r1, r2, r3, r4, _⟩ := r_ok c6
  have k6 := next_any (str (Fl ++ s.data.toList)) (by rw [size_str, List.length_append]; omega)
  rw [c6, r1, r2, r3, r4, q1, q2, q3, q4, str_data] at k6
  obtain ⟨p1, p2, p3, p4⟩ := parse_frame k e b h1 h2 he hb (str Fl) (by rw [hFl])
  have k7 := parse_any (str Fl) (by rw [htz]; omega)
  rw [p1, p2, p3, p4] at k7
  have hadd : ∀ W, (Op.stringOp .add (str Fl) s).run Try.prog W = .ok (.string (str (Fl ++ s.data.toList))) W := by
    intro W
    have := run_add_bytes Fl s.data.toList (by omega) W
    rw [str_data] at this
    exact this
  rw [← hFl] at k1 k2
  exact tail_cases s hs _
    (fun c hc k3 k4 k5 => fb_yes_bad k e b s _ _ (by omega) hs c hc htz hadd k1 k2 k6 k7 k3 k4 k5 w)
    (fun a1 a2 n a3 hn k3 k4 k5 => fb_yes_more k e b s _ _ (by omega) hs a1 a2 n a3 hn htz hadd k1 k2 k6 k7 k3 k4 k5 w)
    (fun a1 a2 n a3 hn k3 k4 k5 => fb_yes_whole k e b s _ _ (by omega) hs a1 a2 n a3 hn htz hadd k1 k2 k6 k7 k3 k4 k5 w)

theorem fb_all (k : Int) (e : Nat) (b s : ByteArray) (he : e ≤ 18446744073709551615) (w : World) :
    Calls Try.prog 5 #[.agg #[.int .i64 k, .int .u64 e, .string b], .string s] w fun e w' => e = .returned (.bool true) ∧ Below w.heap.size w w' := by
  by_cases hg : 9000 < b.size ∨ 9000 < s.size
  · exact fb_great k e b s hg w
  by_cases hk : k < 1 ∨ 255 < k
  · exact fb_no k e b s 10 (by omega) (by omega) (by omega) (bytes_kind k e b hk) (rbytes_kind k e b hk) w
  · by_cases hb : 8192 < b.size
    · exact fb_no k e b s 5 (by omega) (by omega) (by omega) (bytes_long k e b (by omega) (by omega) hb) (rbytes_long k e b (by omega) (by omega) hb) w
    · obtain ⟨kk, rfl⟩ := Int.eq_ofNat_of_zero_le (show 0 ≤ k by omega)
      exact fb_yes kk e b s (by omega) (by omega) he (by omega) (by omega) w
end Go.Proofs.Ytlochpnifjmefaa
