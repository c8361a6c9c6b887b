/- codec.Same.; The document's Same. -/
import Derived.Test.YtlochpnifjmefaaJ21
import Derived.Test.YtlochpnifjmefaaJ17
import Derived.StillTailTactics
set_option linter.unusedVariables false
set_option linter.unusedSimpArgs false
namespace Go.Proofs.Ytlochpnifjmefaa
open Go.RowKit

theorem bytes_ne {a b : ByteArray} (h : a ≠ b) : (a.toList == b.toList) = false := by
  rw [beq_eq_false_iff_ne]
  intro e
  apply h
  apply ByteArray.ext
  apply Array.ext'
  rw [Lib.toList_data, Lib.toList_data] at e
  exact e

set_option maxRecDepth 100000 in
theorem same_kind (k k' : Int) (n n' : Nat) (s s' : ByteArray) (o o' : Option Addr) (m m' cap cap' : Nat) (hk : k ≠ k') (w : World) :
    Calls Try.prog 16 #[.agg #[.int .i64 k, .int .u64 (n : Int), .string s, .slice o m cap], .agg #[.int .i64 k', .int .u64 (n' : Int), .string s', .slice o' m' cap']] w fun e w' => e = .returned (.bool false) ∧ Below w.heap.size w w' := by
  have q1 : (k == k') = false := by rw [beq_eq_false_iff_ne]; exact hk
  clear hk
  have H0 := Lib.hid (VW.new w (.int .i64 k) (.int .u64 (n : Int)) (.string s) (.slice o m cap) 27)
  obtain ⟨w0, hw0⟩ : ∃ w0, w0 = w.alloc (.cells #[.int .i64 k, .int .u64 (n : Int), .string s, .slice o m cap] 27) := ⟨_, rfl⟩
  rw [← hw0] at H0
  have H1 := Lib.hid (VW.new w0 (.int .i64 k') (.int .u64 (n' : Int)) (.string s') (.slice o' m' cap') 27)
  have HS : Hid (w0.heap.size = w.heap.size + 1) := Lib.hid (by rw [hw0]; simp)
  have HW := Lib.hid hw0
  clear hw0
  go_enter Try.func16, Try.ntmps16
  go_upto_region 1 with fail
  rw [← HW.out]
  refine gen_wp (S := fun wz => Hid (VW w (.int .i64 k) (.int .u64 (n : Int)) (.string s) (.slice o m cap) wz ∧ VW w0 (.int .i64 k') (.int .u64 (n' : Int)) (.string s') (.slice o' m' cap') wz)) (Lib.hid ⟨H0.out.later H1.out.2.2, H1.out⟩) ?_
  intro W1 HX
  obtain ⟨c0, c1, c2, c3⟩ := HX.out.1.1
  obtain ⟨d0, d1, d2, d3⟩ := HX.out.2.1
  have HB := Lib.hid HX.out.1.2.2
  rw [HS.out] at d0 d1 d2 d3
  clear H0 H1 HW HX HS
  go_wp2
  go_ret
  exact ⟨rfl, HB.out⟩

set_option maxRecDepth 100000 in
theorem same_num (k : Int) (n n' : Nat) (s s' : ByteArray) (o o' : Option Addr) (m m' cap cap' : Nat) (hn : n ≠ n') (w : World) :
    Calls Try.prog 16 #[.agg #[.int .i64 k, .int .u64 (n : Int), .string s, .slice o m cap], .agg #[.int .i64 k, .int .u64 (n' : Int), .string s', .slice o' m' cap']] w fun e w' => e = .returned (.bool false) ∧ Below w.heap.size w w' := by
  have q1 : (k == k) = true := by simp
  have q2 : ((n : Int) == (n' : Int)) = false := by rw [beq_eq_false_iff_ne]; omega
  clear hn
  have H0 := Lib.hid (VW.new w (.int .i64 k) (.int .u64 (n : Int)) (.string s) (.slice o m cap) 27)
  obtain ⟨w0, hw0⟩ : ∃ w0, w0 = w.alloc (.cells #[.int .i64 k, .int .u64 (n : Int), .string s, .slice o m cap] 27) := ⟨_, rfl⟩
  rw [← hw0] at H0
  have H1 := Lib.hid (VW.new w0 (.int .i64 k) (.int .u64 (n' : Int)) (.string s') (.slice o' m' cap') 27)
  have HS : Hid (w0.heap.size = w.heap.size + 1) := Lib.hid (by rw [hw0]; simp)
  have HW := Lib.hid hw0
  clear hw0
  go_enter Try.func16, Try.ntmps16
  go_upto_region 1 with fail
  rw [← HW.out]
  refine gen_wp (S := fun wz => Hid (VW w (.int .i64 k) (.int .u64 (n : Int)) (.string s) (.slice o m cap) wz ∧ VW w0 (.int .i64 k) (.int .u64 (n' : Int)) (.string s') (.slice o' m' cap') wz)) (Lib.hid ⟨H0.out.later H1.out.2.2, H1.out⟩) ?_
  intro W1 HX
  obtain ⟨c0, c1, c2, c3⟩ := HX.out.1.1
  obtain ⟨d0, d1, d2, d3⟩ := HX.out.2.1
  have HB := Lib.hid HX.out.1.2.2
  rw [HS.out] at d0 d1 d2 d3
  clear H0 H1 HW HX HS
  go_wp2
  go_ret
  exact ⟨rfl, HB.out⟩

set_option maxRecDepth 100000 in
theorem same_text (k : Int) (n : Nat) (s s' : ByteArray) (o o' : Option Addr) (m m' cap cap' : Nat) (hs : s ≠ s') (w : World) :
    Calls Try.prog 16 #[.agg #[.int .i64 k, .int .u64 (n : Int), .string s, .slice o m cap], .agg #[.int .i64 k, .int .u64 (n : Int), .string s', .slice o' m' cap']] w fun e w' => e = .returned (.bool false) ∧ Below w.heap.size w w' := by
  have q1 : (k == k) = true := by simp
  have q2 : ((n : Int) == (n : Int)) = true := by simp
  have q3 := bytes_ne hs
  clear hs
  have H0 := Lib.hid (VW.new w (.int .i64 k) (.int .u64 (n : Int)) (.string s) (.slice o m cap) 27)
  obtain ⟨w0, hw0⟩ : ∃ w0, w0 = w.alloc (.cells #[.int .i64 k, .int .u64 (n : Int), .string s, .slice o m cap] 27) := ⟨_, rfl⟩
  rw [← hw0] at H0
  have H1 := Lib.hid (VW.new w0 (.int .i64 k) (.int .u64 (n : Int)) (.string s') (.slice o' m' cap') 27)
  have HS : Hid (w0.heap.size = w.heap.size + 1) := Lib.hid (by rw [hw0]; simp)
  have HW := Lib.hid hw0
  clear hw0
  go_enter Try.func16, Try.ntmps16
  go_upto_region 1 with fail
  rw [← HW.out]
  refine gen_wp (S := fun wz => Hid (VW w (.int .i64 k) (.int .u64 (n : Int)) (.string s) (.slice o m cap) wz ∧ VW w0 (.int .i64 k) (.int .u64 (n : Int)) (.string s') (.slice o' m' cap') wz)) (Lib.hid ⟨H0.out.later H1.out.2.2, H1.out⟩) ?_
  intro W1 HX
  obtain ⟨c0, c1, c2, c3⟩ := HX.out.1.1
  obtain ⟨d0, d1, d2, d3⟩ := HX.out.2.1
  have HB := Lib.hid HX.out.1.2.2
  rw [HS.out] at d0 d1 d2 d3
  clear H0 H1 HW HX HS
  go_wp2
  go_ret
  exact ⟨rfl, HB.out⟩

set_option maxRecDepth 100000 in
theorem same_list (k : Int) (n : Nat) (s : ByteArray) (o o' : Option Addr) (m m' cap cap' : Nat) (w : World) (R : Bool) (h37 : ∀ wz, Below w.heap.size w wz → Calls Try.prog 37 #[.slice o m cap, .slice o' m' cap', .func (Fn.func 16) #[] #[]] wz fun e w' => e = .returned (.bool R) ∧ Below wz.heap.size wz w') :
    Calls Try.prog 16 #[.agg #[.int .i64 k, .int .u64 (n : Int), .string s, .slice o m cap], .agg #[.int .i64 k, .int .u64 (n : Int), .string s, .slice o' m' cap']] w fun e w' => e = .returned (.bool R) ∧ Below w.heap.size w w' := by
  have q1 : (k == k) = true := by simp
  have q2 : ((n : Int) == (n : Int)) = true := by simp
  have q3 : (s.toList == s.toList) = true := by simp
  have K37 := Lib.hid h37
  clear h37
  have H0 := Lib.hid (VW.new w (.int .i64 k) (.int .u64 (n : Int)) (.string s) (.slice o m cap) 27)
  obtain ⟨w0, hw0⟩ : ∃ w0, w0 = w.alloc (.cells #[.int .i64 k, .int .u64 (n : Int), .string s, .slice o m cap] 27) := ⟨_, rfl⟩
  rw [← hw0] at H0
  have H1 := Lib.hid (VW.new w0 (.int .i64 k) (.int .u64 (n : Int)) (.string s) (.slice o' m' cap') 27)
  have HS : Hid (w0.heap.size = w.heap.size + 1) := Lib.hid (by rw [hw0]; simp)
  have HW := Lib.hid hw0
  clear hw0
  go_enter Try.func16, Try.ntmps16
  go_upto_region 1 with fail
  rw [← HW.out]
  refine gen_wp (S := fun wz => Hid (VW w (.int .i64 k) (.int .u64 (n : Int)) (.string s) (.slice o m cap) wz ∧ VW w0 (.int .i64 k) (.int .u64 (n : Int)) (.string s) (.slice o' m' cap') wz)) (Lib.hid ⟨H0.out.later H1.out.2.2, H1.out⟩) ?_
  intro W1 HX
  obtain ⟨c0, c1, c2, c3⟩ := HX.out.1.1
  obtain ⟨d0, d1, d2, d3⟩ := HX.out.2.1
  have HB := Lib.hid HX.out.1.2.2
  rw [HS.out] at d0 d1 d2 d3
  clear H0 H1 HW HX HS
  go_wp2_with (first | (go_at_call 37; go_must (refine (K37.out _ HB.out).mono ?_); rintro e w2 ⟨rfl, hb2⟩))
  go_ret
  exact ⟨rfl, HB.out.trans (hb2.mono HB.out.size)⟩

theorem same_any : ∀ (t : Tr), ∀ (u : Tr) (c0 c1 c2 c3 d0 d1 d2 d3 : Value) (w : World), VIn w t c0 c1 c2 c3 → VIn w u d0 d1 d2 d3 → Calls Try.prog 16 #[.agg #[c0, c1, c2, c3], .agg #[d0, d1, d2, d3]] w fun e w' => e = .returned (.bool (sameT t u)) ∧ Below w.heap.size w w' := by
  refine Tr.ind ?_
  intro k n s l ih u c0 c1 c2 c3 d0 d1 d2 d3 w h h'
  obtain ⟨k', n', s', l'⟩ := u
  unfold VIn at h h'
  obtain ⟨rfl, rfl, hn, rfl, ⟨_, hlen⟩, o, cap, b, off, rfl, ho, hl⟩ := h
  obtain ⟨rfl, rfl, hn', rfl, ⟨_, hlen'⟩, o', cap', b', off', rfl, ho', hl'⟩ := h'
  unfold sameT
  by_cases h1 : k = k'
  · by_cases h2 : n = n'
    · by_cases h3 : s = s'
      · rw [decide_eq_true h1, decide_eq_true h2, decide_eq_true h3, Bool.true_and, Bool.true_and, Bool.true_and]
        subst h1 h2 h3
        refine same_list k n s o o' l.length l'.length cap cap' w _ (fun wz hb => ?_)
        by_cases h4 : l.length = l'.length
        · refine eqf_any l l' o o' cap b off cap' b' off' hlen h4 ih wz (fun hp => ⟨(ho hp).1, Nat.lt_of_lt_of_le (ho hp).2 hb.size⟩) ?_ (fun hp => ⟨(ho' hp).1, Nat.lt_of_lt_of_le (ho' hp).2 hb.size⟩) ?_
          · exact VInL.keep hb (fun hp => (ho hp).2) hl
          · exact VInL.keep hb (fun hp => (ho' hp).2) hl'
        · rw [sameL_len l l' h4]
          exact eqf_len o o' l.length l'.length cap cap' h4 _ wz
      · rw [decide_eq_true h1, decide_eq_true h2, decide_eq_false h3]
        subst h1 h2
        simpa using same_text k n s s' o o' l.length l'.length cap cap' h3 w
    · rw [decide_eq_true h1, decide_eq_false h2]
      subst h1
      simpa using same_num k n n' s s' o o' l.length l'.length cap cap' h2 w
  · rw [decide_eq_false h1]
    simpa using same_kind k k' n n' s s' o o' l.length l'.length cap cap' h1 w
end Go.Proofs.Ytlochpnifjmefaa

namespace Go.Proofs.Ytlochpnifjmefaa
open Go.RowKit

set_option maxRecDepth 100000 in
theorem rsame_kind (k k' : Int) (n n' : Nat) (s s' : ByteArray) (o o' : Option Addr) (m m' cap cap' : Nat) (hk : k ≠ k') (w : World) :
    Calls Try.prog 17 #[.agg #[.int .i64 k, .int .u64 (n : Int), .string s, .slice o m cap], .agg #[.int .i64 k', .int .u64 (n' : Int), .string s', .slice o' m' cap']] w fun e w' => e = .returned (.bool false) ∧ Below w.heap.size w w' := by
  have q1 : (k != k') = true := by rw [bne_iff_ne]; exact hk
  clear hk
  have H0 := Lib.hid (VW.new w (.int .i64 k) (.int .u64 (n : Int)) (.string s) (.slice o m cap) 37)
  obtain ⟨w0, hw0⟩ : ∃ w0, w0 = w.alloc (.cells #[.int .i64 k, .int .u64 (n : Int), .string s, .slice o m cap] 37) := ⟨_, rfl⟩
  rw [← hw0] at H0
  have H1 := Lib.hid (VW.new w0 (.int .i64 k') (.int .u64 (n' : Int)) (.string s') (.slice o' m' cap') 37)
  have HS : Hid (w0.heap.size = w.heap.size + 1) := Lib.hid (by rw [hw0]; simp)
  have HW := Lib.hid hw0
  clear hw0
  go_enter Try.func17, Try.ntmps17
  go_upto_region 1 with fail
  rw [← HW.out]
  refine gen_wp (S := fun wz => Hid (VW w (.int .i64 k) (.int .u64 (n : Int)) (.string s) (.slice o m cap) wz ∧ VW w0 (.int .i64 k') (.int .u64 (n' : Int)) (.string s') (.slice o' m' cap') wz)) (Lib.hid ⟨H0.out.later H1.out.2.2, H1.out⟩) ?_
  intro W1 HX
  obtain ⟨c0, c1, c2, c3⟩ := HX.out.1.1
  obtain ⟨d0, d1, d2, d3⟩ := HX.out.2.1
  have HB := Lib.hid HX.out.1.2.2
  rw [HS.out] at d0 d1 d2 d3
  clear H0 H1 HW HX HS
  go_wp2
  go_ret
  exact ⟨rfl, HB.out⟩

set_option maxRecDepth 100000 in
theorem rsame_num (k : Int) (n n' : Nat) (s s' : ByteArray) (o o' : Option Addr) (m m' cap cap' : Nat) (hn : n ≠ n') (w : World) :
    Calls Try.prog 17 #[.agg #[.int .i64 k, .int .u64 (n : Int), .string s, .slice o m cap], .agg #[.int .i64 k, .int .u64 (n' : Int), .string s', .slice o' m' cap']] w fun e w' => e = .returned (.bool false) ∧ Below w.heap.size w w' := by
  have q1 : (k != k) = false := by simp
  have q2 : ((n : Int) != (n' : Int)) = true := by rw [bne_iff_ne]; omega
  clear hn
  have H0 := Lib.hid (VW.new w (.int .i64 k) (.int .u64 (n : Int)) (.string s) (.slice o m cap) 37)
  obtain ⟨w0, hw0⟩ : ∃ w0, w0 = w.alloc (.cells #[.int .i64 k, .int .u64 (n : Int), .string s, .slice o m cap] 37) := ⟨_, rfl⟩
  rw [← hw0] at H0
  have H1 := Lib.hid (VW.new w0 (.int .i64 k) (.int .u64 (n' : Int)) (.string s') (.slice o' m' cap') 37)
  have HS : Hid (w0.heap.size = w.heap.size + 1) := Lib.hid (by rw [hw0]; simp)
  have HW := Lib.hid hw0
  clear hw0
  go_enter Try.func17, Try.ntmps17
  go_upto_region 1 with fail
  rw [← HW.out]
  refine gen_wp (S := fun wz => Hid (VW w (.int .i64 k) (.int .u64 (n : Int)) (.string s) (.slice o m cap) wz ∧ VW w0 (.int .i64 k) (.int .u64 (n' : Int)) (.string s') (.slice o' m' cap') wz)) (Lib.hid ⟨H0.out.later H1.out.2.2, H1.out⟩) ?_
  intro W1 HX
  obtain ⟨c0, c1, c2, c3⟩ := HX.out.1.1
  obtain ⟨d0, d1, d2, d3⟩ := HX.out.2.1
  have HB := Lib.hid HX.out.1.2.2
  rw [HS.out] at d0 d1 d2 d3
  clear H0 H1 HW HX HS
  go_wp2
  go_ret
  exact ⟨rfl, HB.out⟩

set_option maxRecDepth 100000 in
theorem rsame_text (k : Int) (n : Nat) (s s' : ByteArray) (o o' : Option Addr) (m m' cap cap' : Nat) (hs : s ≠ s') (w : World) :
    Calls Try.prog 17 #[.agg #[.int .i64 k, .int .u64 (n : Int), .string s, .slice o m cap], .agg #[.int .i64 k, .int .u64 (n : Int), .string s', .slice o' m' cap']] w fun e w' => e = .returned (.bool false) ∧ Below w.heap.size w w' := by
  have q1 : (k != k) = false := by simp
  have q2 : ((n : Int) != (n : Int)) = false := by simp
  have q3 := bytes_ne hs
  have q3' : (s.toList != s'.toList) = true := by simp [bne, q3]
  clear hs
  have H0 := Lib.hid (VW.new w (.int .i64 k) (.int .u64 (n : Int)) (.string s) (.slice o m cap) 37)
  obtain ⟨w0, hw0⟩ : ∃ w0, w0 = w.alloc (.cells #[.int .i64 k, .int .u64 (n : Int), .string s, .slice o m cap] 37) := ⟨_, rfl⟩
  rw [← hw0] at H0
  have H1 := Lib.hid (VW.new w0 (.int .i64 k) (.int .u64 (n : Int)) (.string s') (.slice o' m' cap') 37)
  have HS : Hid (w0.heap.size = w.heap.size + 1) := Lib.hid (by rw [hw0]; simp)
  have HW := Lib.hid hw0
  clear hw0
  go_enter Try.func17, Try.ntmps17
  go_upto_region 1 with fail
  rw [← HW.out]
  refine gen_wp (S := fun wz => Hid (VW w (.int .i64 k) (.int .u64 (n : Int)) (.string s) (.slice o m cap) wz ∧ VW w0 (.int .i64 k) (.int .u64 (n : Int)) (.string s') (.slice o' m' cap') wz)) (Lib.hid ⟨H0.out.later H1.out.2.2, H1.out⟩) ?_
  intro W1 HX
  obtain ⟨c0, c1, c2, c3⟩ := HX.out.1.1
  obtain ⟨d0, d1, d2, d3⟩ := HX.out.2.1
  have HB := Lib.hid HX.out.1.2.2
  rw [HS.out] at d0 d1 d2 d3
  clear H0 H1 HW HX HS
  go_wp2
  go_ret
  exact ⟨rfl, HB.out⟩

set_option maxRecDepth 100000 in
theorem rsame_len (k : Int) (n : Nat) (s : ByteArray) (o o' : Option Addr) (m m' cap cap' : Nat) (hm : m ≠ m') (w : World) :
    Calls Try.prog 17 #[.agg #[.int .i64 k, .int .u64 (n : Int), .string s, .slice o m cap], .agg #[.int .i64 k, .int .u64 (n : Int), .string s, .slice o' m' cap']] w fun e w' => e = .returned (.bool false) ∧ Below w.heap.size w w' := by
  have q1 : (k != k) = false := by simp
  have q2 : ((n : Int) != (n : Int)) = false := by simp
  have q3 : (s.toList != s.toList) = false := by simp
  have q4 : ((m : Int) != (m' : Int)) = true := by rw [bne_iff_ne]; omega
  clear hm
  have H0 := Lib.hid (VW.new w (.int .i64 k) (.int .u64 (n : Int)) (.string s) (.slice o m cap) 37)
  obtain ⟨w0, hw0⟩ : ∃ w0, w0 = w.alloc (.cells #[.int .i64 k, .int .u64 (n : Int), .string s, .slice o m cap] 37) := ⟨_, rfl⟩
  rw [← hw0] at H0
  have H1 := Lib.hid (VW.new w0 (.int .i64 k) (.int .u64 (n : Int)) (.string s) (.slice o' m' cap') 37)
  have HS : Hid (w0.heap.size = w.heap.size + 1) := Lib.hid (by rw [hw0]; simp)
  have HW := Lib.hid hw0
  clear hw0
  go_enter Try.func17, Try.ntmps17
  go_upto_region 1 with fail
  rw [← HW.out]
  refine gen_wp (S := fun wz => Hid (VW w (.int .i64 k) (.int .u64 (n : Int)) (.string s) (.slice o m cap) wz ∧ VW w0 (.int .i64 k) (.int .u64 (n : Int)) (.string s) (.slice o' m' cap') wz)) (Lib.hid ⟨H0.out.later H1.out.2.2, H1.out⟩) ?_
  intro W1 HX
  obtain ⟨c0, c1, c2, c3⟩ := HX.out.1.1
  obtain ⟨d0, d1, d2, d3⟩ := HX.out.2.1
  have HB := Lib.hid HX.out.1.2.2
  rw [HS.out] at d0 d1 d2 d3
  clear H0 H1 HW HX HS
  go_wp2
  go_ret
  exact ⟨rfl, HB.out⟩

set_option maxRecDepth 100000 in
set_option maxHeartbeats 1000000 in
theorem rsame_list (k : Int) (n : Nat) (s : ByteArray) (o o' : Option Addr) (cap b off cap' b' off' : Nat) (l l' : List Tr) (hlen : l.length ≤ 1000000) (he : l.length = l'.length)
    (ih : ∀ x ∈ l, ∀ (y : Tr) (c0 c1 c2 c3 d0 d1 d2 d3 : Value) (w : World), VIn w x c0 c1 c2 c3 → VIn w y d0 d1 d2 d3 → Calls Try.prog 17 #[.agg #[c0, c1, c2, c3], .agg #[d0, d1, d2, d3]] w fun e w' => e = .returned (.bool (sameT x y)) ∧ Below w.heap.size w w')
    (w : World) (ho : 0 < l.length → o = some ⟨b, off, none⟩ ∧ b < w.heap.size) (hl : VInL w b off l) (ho' : 0 < l'.length → o' = some ⟨b', off', none⟩ ∧ b' < w.heap.size) (hl' : VInL w b' off' l') :
    Calls Try.prog 17 #[.agg #[.int .i64 k, .int .u64 (n : Int), .string s, .slice o l.length cap], .agg #[.int .i64 k, .int .u64 (n : Int), .string s, .slice o' l'.length cap']] w fun e w' => e = .returned (.bool (sameL l l')) ∧ Below w.heap.size w w' := by
  have HS := Lib.hid (sameL_iff l l' he)
  rw [← he]
  obtain ⟨m, hm⟩ : ∃ m, m = l.length := ⟨_, rfl⟩
  have hm' : m = l'.length := by rw [hm, he]
  rw [← hm] at hlen ⊢
  have HM := Lib.hid hm
  have HM' := Lib.hid hm'
  have HO := Lib.hid ho
  have HL := Lib.hid hl
  have HO' := Lib.hid ho'
  have HL' := Lib.hid hl'
  have IH := Lib.hid ih
  obtain ⟨R, hR⟩ : ∃ R, R = sameL l l' := ⟨_, rfl⟩
  rw [← hR]
  have HR := Lib.hid hR
  clear ho hl ho' hl' ih hm hm' he hR
  have q1 : (k != k) = false := by simp
  have q2 : ((n : Int) != (n : Int)) = false := by simp
  have q3 : (s.toList != s.toList) = false := by simp
  have q4 : ((m : Int) != (m : Int)) = false := by simp
  have H0 := Lib.hid (VW.new w (.int .i64 k) (.int .u64 (n : Int)) (.string s) (.slice o m cap) 37)
  obtain ⟨w0, hw0⟩ : ∃ w0, w0 = w.alloc (.cells #[.int .i64 k, .int .u64 (n : Int), .string s, .slice o m cap] 37) := ⟨_, rfl⟩
  rw [← hw0] at H0
  have H1 := Lib.hid (VW.new w0 (.int .i64 k) (.int .u64 (n : Int)) (.string s) (.slice o' m cap') 37)
  have HSZ : Hid (w0.heap.size = w.heap.size + 1) := Lib.hid (by rw [hw0]; simp)
  have HW := Lib.hid hw0
  clear hw0
  go_enter Try.func17, Try.ntmps17
  go_upto_region 1 with fail
  rw [← HW.out]
  refine gen_wp (S := fun wz => Hid (VW w (.int .i64 k) (.int .u64 (n : Int)) (.string s) (.slice o m cap) wz ∧ VW w0 (.int .i64 k) (.int .u64 (n : Int)) (.string s) (.slice o' m cap') wz)) (Lib.hid ⟨H0.out.later H1.out.2.2, H1.out⟩) ?_
  intro W1 HX
  obtain ⟨c0, c1, c2, c3⟩ := HX.out.1.1
  obtain ⟨d0, d1, d2, d3⟩ := HX.out.2.1
  have HB := Lib.hid HX.out.1.2.2
  rw [HSZ.out] at d0 d1 d2 d3
  have HX2 : Hid (VW w (.int .i64 k) (.int .u64 (n : Int)) (.string s) (.slice o m cap) W1 ∧ (W1.cell? ⟨w.heap.size + 1, 3, none⟩ = some (.slice o' m cap') ∧ w.heap.size + 1 < W1.heap.size)) := Lib.hid ⟨HX.out.1, d3, by rw [← HSZ.out]; exact HX.out.2.2.1⟩
  clear H0 H1 HW HX HSZ HB
  go_wp2_with fail
  clear c0 c1 c2 c3 d0 d1 d2 d3
  go_loopw [37] (fun iv wr => ∃ j : Nat, j ≤ m ∧ iv = .int .i64 (j : Int) ∧ Hid (∀ i (h : i < l.length) (h' : i < l'.length), i < j → sameT l[i] l'[i] = true) ∧ Hid (VW w (.int .i64 k) (.int .u64 (n : Int)) (.string s) (.slice o m cap) wr ∧ (wr.cell? ⟨w.heap.size + 1, 3, none⟩ = some (.slice o' m cap') ∧ w.heap.size + 1 < wr.heap.size))) (fun iv _ => m - (intOf iv).toNat)
  case atStart => exact ⟨0, Nat.zero_le _, rfl, Lib.hid (fun i _ _ h => absurd h (by omega)), HX2⟩
  case round =>
    clear HX2
    obtain ⟨j, hj, rfl, hS, hX⟩ := hrel
    by_cases hjm : j < m
    · have hjl : j < l.length := by rw [← HM.out]; exact hjm
      have hjl' : j < l'.length := by rw [← HM'.out]; exact hjm
      obtain ⟨hoo, hbb⟩ := HO.out (by omega)
      subst hoo
      obtain ⟨hoo', hbb'⟩ := HO'.out (by omega)
      subst hoo'
      obtain ⟨d0, d1, d2, d3, e0, e1, e2, e3, hv⟩ := HL.out.at j hjl
      obtain ⟨k1, n1, s1, o1, len1, cap1, rfl, rfl, rfl, rfl⟩ := hv.cells
      obtain ⟨d0', d1', d2', d3', e0', e1', e2', e3', hv'⟩ := HL'.out.at j hjl'
      obtain ⟨k2, n2, s2, o2, len2, cap2, rfl, rfl, rfl, rfl⟩ := hv'.cells
      have f0 := (hX.out.1.2.2.cell (p := ⟨b, _, none⟩) hbb).trans e0
      have f1 := (hX.out.1.2.2.cell (p := ⟨b, _, none⟩) hbb).trans e1
      have f2 := (hX.out.1.2.2.cell (p := ⟨b, _, none⟩) hbb).trans e2
      have f3 := (hX.out.1.2.2.cell (p := ⟨b, _, none⟩) hbb).trans e3
      have g0 := (hX.out.1.2.2.cell (p := ⟨b', _, none⟩) hbb').trans e0'
      have g1 := (hX.out.1.2.2.cell (p := ⟨b', _, none⟩) hbb').trans e1'
      have g2 := (hX.out.1.2.2.cell (p := ⟨b', _, none⟩) hbb').trans e2'
      have g3 := (hX.out.1.2.2.cell (p := ⟨b', _, none⟩) hbb').trans e3'
      have b3 := hX.out.1.1.2.2.2
      have b4 := hX.out.2.1
      have ij : (j : Int) < (m : Int) := by omega
      have ij0 : (0 : Int) ≤ (j : Int) := by omega
      have HV := Lib.hid hv
      have HV' := Lib.hid hv'
      clear e0 e1 e2 e3 hv e0' e1' e2' e3' hv'
      go_wp2_with fail
      go_still_tail 10, (by kernel_rfl)
      change wpList _ _ _ _ _ wr.drew
      have HXd : Hid (VW w (.int .i64 k) (.int .u64 (n : Int)) (.string s) (.slice (some ⟨b, off, none⟩) m cap) wr.drew ∧ (wr.drew.cell? ⟨w.heap.size + 1, 3, none⟩ = some (.slice (some ⟨b', off', none⟩) m cap') ∧ w.heap.size + 1 < wr.drew.heap.size)) := Lib.hid ⟨hX.out.1.drew, hX.out.2⟩
      clear f0 f1 f2 f3 g0 g1 g2 g3 b3 b4
      generalize wr.drew = wd at *
      go_wp2_with fail
      refine (IH.out l[j] (List.getElem_mem hjl) l'[j] _ _ _ _ _ _ _ _ wd (HV.out.later HXd.out.1.2.2) (HV'.out.later HXd.out.1.2.2)).mono ?_
      rintro r w5 ⟨rfl, hb5⟩
      have HX5 : Hid (VW w (.int .i64 k) (.int .u64 (n : Int)) (.string s) (.slice (some ⟨b, off, none⟩) m cap) w5 ∧ (w5.cell? ⟨w.heap.size + 1, 3, none⟩ = some (.slice (some ⟨b', off', none⟩) m cap') ∧ w.heap.size + 1 < w5.heap.size)) := Lib.hid ⟨HXd.out.1.later hb5, (hb5.cell (p := ⟨w.heap.size + 1, 3, none⟩) HXd.out.2.2).trans HXd.out.2.1, Nat.lt_of_lt_of_le HXd.out.2.2 hb5.size⟩
      clear hb5
      by_cases hs : sameT l[j] l'[j] = true
      · have HSS := Lib.hid hs
        rw [hs]
        clear hs
        go_wp2
        go_roundw
        case rel =>
          refine ⟨j + 1, by omega, by go_num, Lib.hid (fun i h h' hi => ?_), HX5⟩
          by_cases hij : i = j
          · subst hij; exact HSS.out
          · exact hS.out i h h' (by omega)
        case measure => simp [intOf]; omega
      · have hss : sameT l[j] l'[j] = false := by simpa using hs
        have HALL : Hid (R = false) := Lib.hid (by
          rw [HR.out]
          cases hx : sameL l l' with
          | false => rfl
          | true => exact absurd (HS.out.1 hx j hjl hjl') hs)
        have HB := Lib.hid HX5.out.1.2.2
        rw [hss]
        clear hs hss
        go_wp2
        go_ret
        exact ⟨by rw [HALL.out]; rfl, HB.out⟩
    · have HALL : Hid (R = true) := Lib.hid (by
        rw [HR.out]
        exact HS.out.2 (fun i h h' => hS.out i h h' (by have := HM.out; omega)))
      have HB := Lib.hid hX.out.1.2.2
      go_wp2
      go_ret
      exact ⟨by rw [HALL.out]; rfl, HB.out⟩

theorem rsame_any : ∀ (t : Tr), ∀ (u : Tr) (c0 c1 c2 c3 d0 d1 d2 d3 : Value) (w : World), VIn w t c0 c1 c2 c3 → VIn w u d0 d1 d2 d3 → Calls Try.prog 17 #[.agg #[c0, c1, c2, c3], .agg #[d0, d1, d2, d3]] w fun e w' => e = .returned (.bool (sameT t u)) ∧ Below w.heap.size w w' := by
  refine Tr.ind ?_
  intro k n s l ih u c0 c1 c2 c3 d0 d1 d2 d3 w h h'
  obtain ⟨k', n', s', l'⟩ := u
  unfold VIn at h h'
  obtain ⟨rfl, rfl, hn, rfl, ⟨_, hlen⟩, o, cap, b, off, rfl, ho, hl⟩ := h
  obtain ⟨rfl, rfl, hn', rfl, ⟨_, hlen'⟩, o', cap', b', off', rfl, ho', hl'⟩ := h'
  unfold sameT
  by_cases h1 : k = k'
  · by_cases h2 : n = n'
    · by_cases h3 : s = s'
      · rw [decide_eq_true h1, decide_eq_true h2, decide_eq_true h3, Bool.true_and, Bool.true_and, Bool.true_and]
        subst h1 h2 h3
        by_cases h4 : l.length = l'.length
        · exact rsame_list k n s o o' cap b off cap' b' off' l l' hlen h4 ih w ho hl ho' hl'
        · rw [sameL_len l l' h4]
          exact rsame_len k n s o o' l.length l'.length cap cap' h4 w
      · rw [decide_eq_true h1, decide_eq_true h2, decide_eq_false h3]
        subst h1 h2
        simpa using rsame_text k n s s' o o' l.length l'.length cap cap' h3 w
    · rw [decide_eq_true h1, decide_eq_false h2]
      subst h1
      simpa using rsame_num k n n' s s' o o' l.length l'.length cap cap' h2 w
  · rw [decide_eq_false h1]
    simpa using rsame_kind k k' n n' s s' o o' l.length l'.length cap cap' h1 w
end Go.Proofs.Ytlochpnifjmefaa
