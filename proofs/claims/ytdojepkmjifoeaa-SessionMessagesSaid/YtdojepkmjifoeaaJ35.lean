/- The document's Next of a text that is long enough. -/
import Derived.Test.YtdojepkmjifoeaaJ10
import Derived.Test.YtdojepkmjifoeaaJ13
import Derived.Test.YtdojepkmjifoeaaJ09
set_option linter.unusedVariables false
set_option linter.unusedSimpArgs false
namespace Go.Proofs.Ytdojepkmjifoeaa
open Go.RowKit

def RnR (s : ByteArray) (w : World) (r : Ending) (w' : World) : Prop :=
  Below w.heap.size w w' ∧ ((okS s ∧ r = .returned (rnV (kindS s) (epS s) (bodyS s) (lenN s + 20) 0)) ∨ (¬ okS s ∧ r = .returned (rnV 0 0 ⟨#[]⟩ 0 9)))

set_option maxRecDepth 100000 in
set_option maxHeartbeats 2000000 in
theorem rnext_fine (s : ByteArray) (hs : 20 ≤ s.size) (hp : preS s = true) (hk : kindS s ≠ 0) (hn : lenN s ≤ 8192) (hc : lenN s + 20 ≤ s.size) (w : World) :
    Calls Try.prog 28 #[.string s] w (RnR s w) := by
  have h20 : ¬ s.size < 20 := by omega
  have h0 : 0 < s.size := by omega
  have h1 : 1 < s.size := by omega
  have h2 : 2 < s.size := by omega
  have h3 : 3 < s.size := by omega
  obtain ⟨b0, b1, b2⟩ := (pre_bytes s (by omega)).1 hp
  have q0 : ((s[0].toNat : Int) != 79) = false := by rw [b0]; rfl
  have q1 : ((s[1].toNat : Int) != 70) = false := by rw [b1]; rfl
  have q2 : ((s[2].toNat : Int) != 1) = false := by rw [b2]; rfl
  have hz : ((s[3].toNat : Int) == 0) = false := by rw [← kind_at s h3, beq_eq_false_iff_ne]; omega
  have K2 := Lib.hid (rnum_call s hs _ rfl)
  have K5 := Lib.hid (rep_call s hs _ rfl)
  have hkl := kindS_lt s
  have hbs : (bodyS s).size = lenN s := by
    have := body_length s hc
    simpa using this
  have k24 := fun w => rbytes_ok (kindS s) (epS s) (bodyS s) (by omega) (by omega) (epS_lt s) (by omega) w
  have hkk := kind_at s h3
  have hbd : bodyS s = s.extract 16 (lenN s + 16) := rfl
  have hok : okS s ↔ s.extract 0 (lenN s + 20) = str (frameL (kindS s) (epS s) (bodyS s).data.toList) := by
    unfold okS
    constructor
    · intro h
      apply ByteArray.ext
      apply Array.ext'
      rw [ext_list, data_str]; simpa using h
    · intro h
      have := congrArg (fun x : ByteArray => x.data.toList) h
      rw [ext_list, data_str] at this
      simpa using this
  have HRES : Hid (∀ r w', Below w.heap.size w w' → ((okS s ∧ r = .returned (rnV (kindS s) (epS s) (bodyS s) (lenN s + 20) 0)) ∨ (¬ okS s ∧ r = .returned (rnV 0 0 ⟨#[]⟩ 0 9))) → RnR s w r w') := Lib.hid (fun r w' hb h => ⟨hb, h⟩)
  obtain ⟨k, hkd⟩ : ∃ k, kindS s = k := ⟨_, rfl⟩
  obtain ⟨e, hed⟩ : ∃ e, epS s = e := ⟨_, rfl⟩
  obtain ⟨n, hnd⟩ : ∃ n, lenN s = n := ⟨_, rfl⟩
  obtain ⟨bo, hbo⟩ : ∃ bo, bodyS s = bo := ⟨_, rfl⟩
  rw [hkd, hed, hbo] at k24
  rw [hkd, hed, hbo, hnd] at hok HRES
  rw [hed] at K5
  rw [hnd] at K2 hn hc hbd
  rw [hbo] at hbd
  rw [hkd] at hkk
  generalize str (frameL k e bo.data.toList) = F at *
  obtain ⟨q, hq⟩ : ∃ q, q = n + 16 := ⟨_, rfl⟩
  obtain ⟨p, hpp⟩ : ∃ p, p = n + 20 := ⟨_, rfl⟩
  rw [← hq] at hbd
  rw [← hpp] at hok HRES
  have hw : IntKind.i64.wrap (n : Int) = (n : Int) := IntWalk.i64_in _ (by omega)
  have hwr : IntKind.i64.wrap (s[3].toNat : Int) = (k : Int) := by rw [hkk]; exact IntWalk.i64_in _ (by have := s[3].toNat_lt; omega)
  have hwq : IntKind.i64.wrap (16 + (n : Int)) = (q : Int) := by rw [IntWalk.i64_in _ (by omega)]; omega
  have hnq : (16 : Int) + (n : Int) = (q : Int) := by omega
  have hnp : (20 : Int) + (n : Int) = (p : Int) := by omega
  have hwq2 : IntKind.i64.wrap (q : Int) = (q : Int) := IntWalk.i64_in _ (by omega)
  have hwp2 : IntKind.i64.wrap (p : Int) = (p : Int) := IntWalk.i64_in _ (by omega)
  have hwp : IntKind.i64.wrap (20 + (n : Int)) = (p : Int) := by rw [IntWalk.i64_in _ (by omega)]; omega
  have iq : (q : Int) ≤ (s.size : Int) := by omega
  have iq16 : (16 : Int) ≤ (q : Int) := by omega
  have ip : (p : Int) ≤ (s.size : Int) := by omega
  have ip0 : (0 : Int) ≤ (p : Int) := by omega
  have hps : ¬ (s.size : Int) < (p : Int) := by omega
  have i12 : (12 : Int) ≤ (s.size : Int) := by omega
  have i3 : (3 : Int) < (s.size : Int) := by omega
  rw [hbd] at k24 HRES
  have HOK := Lib.hid hok
  have HBD := Lib.hid hbd
  have K24 := Lib.hid k24
  obtain ⟨w0, hw0⟩ : ∃ w0, w0 = w.alloc (.cells #[.int .i64 0, .int .u64 0, .string ⟨#[]⟩] 66) := ⟨_, rfl⟩
  have HB0 := Lib.hid (show Below w.heap.size w w0 by rw [hw0]; exact (Below.refl _ _).alloc (Nat.le_refl _) _)
  have HL0 := Lib.hid (show w.heap.size < w0.heap.size by rw [hw0]; simp)
  have HF0 := Lib.hid (show Frz w0 w.heap.size 0 0 ⟨#[]⟩ by
    rw [hw0]
    refine ⟨cell_new w _ 66 0, cell_new w _ 66 1, cell_new w _ 66 2, ?_, ?_, ?_⟩ <;> simp)
  have HW0 := Lib.hid hw0
  clear hp b0 b1 b2 hkl hbs hok hbd k24 hkk hkd hed hnd hbo hw0 hq hpp hk hs hc
  go_enter Try.func28, Try.ntmps28
  go_wp2_with fail
  refine (K2.out _).mono ?_
  rintro r w1 ⟨rfl, rfl⟩
  go_wp2_with fail
  rw [← HW0.out]
  clear HW0
  go_region_held3 (fun w' => w0.heap.size ≤ w'.heap.size) (first | (exact Nat.le_refl _) | go_keep | (simp; omega)) (first | (go_at_call 51; refine (K5.out _).mono ?_; rintro r w5 ⟨rfl, rfl⟩))
  all_goals
    simp only [Exit.then]
    apply_assumption
    have hb3 : Below w0.heap.size w0 (w0.alloc (.cells #[.int .i64 k, .int .u64 e, .string (s.extract 16 q)] 66)) := (Below.refl _ _).alloc (Nat.le_refl _) _
    have hF3 : Frz (w0.alloc (.cells #[.int .i64 k, .int .u64 e, .string (s.extract 16 q)] 66)) w0.heap.size k e (s.extract 16 q) := by
      refine ⟨cell_new w0 _ 66 0, cell_new w0 _ 66 1, cell_new w0 _ 66 2, ?_, ?_, ?_⟩ <;> simp
    have hL3 : w0.heap.size < (w0.alloc (.cells #[.int .i64 k, .int .u64 e, .string (s.extract 16 q)] 66)).heap.size := by simp
    have HB3 := Lib.hid (HB0.out.trans (hb3.mono HB0.out.size))
    have HG3 := Lib.hid (HF0.out.below hb3 HL0.out)
    have HL3 := Lib.hid hL3
    have HF3 := Lib.hid hF3
    have HLL := Lib.hid (Nat.lt_of_lt_of_le HL0.out hb3.size)
    clear hb3 hF3 hL3
    generalize w0.alloc (.cells #[.int .i64 (k : Int), .int .u64 (e : Int), .string (s.extract 16 q)] 66) = wa at *
    obtain ⟨d0, d1, d2, _, _, _⟩ := HF3.out
    go_wp2_with fail
    refine (K24.out _).mono ?_
    rintro r w4 ⟨rfl, hb4⟩
    have hb5 : Below wa.heap.size wa w4 := ((Below.refl _ wa).drew).trans hb4
    have HB4 := Lib.hid (HB3.out.trans (hb5.mono HB3.out.size))
    clear d0 d1 d2
    obtain ⟨c0, c1, c2, f0, f1, f2⟩ := HG3.out.below hb5 HLL.out
    obtain ⟨g0, g1, g2, _, _, _⟩ := HF3.out.below hb5 HL3.out
    clear hb4 hb5
    by_cases hokk : s.extract 0 p = F
    · have heq : ((s.extract 0 p).toList == F.toList) = true := by rw [hokk, beq_iff_eq]
      have hne : ((s.extract 0 p).toList != F.toList) = false := by rw [hokk]; simp
      have HK := Lib.hid (HOK.out.2 hokk)
      clear hokk
      go_wp2
      exact bodyPost_ret (v := rnV k e (s.extract 16 q) p 0) (by simp [results, Try.results28, go_sem, rnV, *]) rfl (HRES.out _ _ (((HB4.out.setCell (Nat.le_refl _) _).setCell (Nat.le_refl _) _).setCell (Nat.le_refl _) _) (Or.inl ⟨HK.out, rfl⟩))
    · have hne : ((s.extract 0 p).toList != F.toList) = true := by
        rw [bne_iff_ne]
        intro h
        apply hokk
        apply ByteArray.ext
        apply Array.ext'
        rw [Lib.toList_data, Lib.toList_data] at h
        exact h
      have heq : ((s.extract 0 p).toList == F.toList) = false := by
        rw [beq_eq_false_iff_ne]
        rw [bne_iff_ne] at hne
        exact hne
      have HK := Lib.hid (fun h => hokk (HOK.out.1 h))
      clear hokk
      go_wp2
      exact bodyPost_ret (v := rnV 0 0 ⟨#[]⟩ 0 9) (by simp [results, Try.results28, go_sem, rnV, *]) rfl (HRES.out _ _ (((HB4.out.setCell (Nat.le_refl _) _).setCell (Nat.le_refl _) _).setCell (Nat.le_refl _) _) (Or.inr ⟨HK.out, rfl⟩))
end Go.Proofs.Ytdojepkmjifoeaa
