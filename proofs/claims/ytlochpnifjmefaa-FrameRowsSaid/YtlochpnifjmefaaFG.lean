/- frame.Next and frame.Parse of any text; what is read of a frame, and of one that is turned. -/
import Derived.Test.YtlochpnifjmefaaFD
import Derived.Test.YtlochpnifjmefaaFE
namespace Go.Proofs.Ytlochpnifjmefaa
open Go.RowKit

theorem rest_size (s : ByteArray) : (rR s).size ≤ s.size := by
  unfold rR; split
  · unfold restS; rw [ByteArray.size_extract]; omega
  · exact Nat.zero_le _
theorem next_any (s : ByteArray) (hmax : s.size ≤ 1000000000) (w : World) :
    Calls Try.prog 25 #[.string s] w fun r w' => r = .returned (rdV (rK s) (rE s) (rB s) (rR s) (codeS s)) ∧ Below w.heap.size w w' :=
  next_of s _ _ _ _ _ (Nat.le_trans (rest_size s) hmax) (read_any s hmax) w

/-- What Parse answers: the error, the frame. -/
def codeP (s : ByteArray) : Nat := if codeS s = 0 then (if (rR s).size = 0 then 0 else 4) else codeS s
def pK (s : ByteArray) : Nat := if codeP s = 0 then rK s else 0
def pE (s : ByteArray) : Nat := if codeP s = 0 then rE s else 0
def pB (s : ByteArray) : ByteArray := if codeP s = 0 then rB s else ⟨#[]⟩
theorem code_lt (s : ByteArray) : codeS s < 1000 := by
  unfold codeS; repeat' split
  all_goals omega
theorem parse_any (s : ByteArray) (hmax : s.size ≤ 1000000000) (w : World) :
    Calls Try.prog 26 #[.string s] w fun r w' => r = .returned (paV (pK s) (pE s) (pB s) (codeP s)) ∧ Below w.heap.size w w' := by
  have hr := read_any s hmax
  have hlt := code_lt s
  by_cases h1 : codeS s = 0
  · by_cases h2 : (rR s).size = 0
    · have hc : codeP s = 0 := by unfold codeP; rw [if_pos h1, if_pos h2]
      unfold pK pE pB
      rw [if_pos hc, if_pos hc, if_pos hc, hc]
      rw [h1] at hr
      exact parse_fine s _ _ _ _ h2 hr w
    · have hc : codeP s = 4 := by unfold codeP; rw [if_pos h1, if_neg h2]
      unfold pK pE pB
      rw [if_neg (by omega), if_neg (by omega), if_neg (by omega), hc]
      rw [h1] at hr
      exact parse_form s _ _ _ _ (by omega) hr w
  · have hc : codeP s = codeS s := by unfold codeP; rw [if_neg h1]
    unfold pK pE pB
    rw [if_neg (by omega), if_neg (by omega), if_neg (by omega), hc]
    obtain ⟨a, b, c, d, _⟩ := r_bad h1
    rw [a, b, c, d] at hr
    exact parse_bad s _ h1 hlt hr w

theorem mid_list (A B C : List UInt8) (a n : Nat) (ha : A.length = a) (hn : B.length = n) : ((A ++ (B ++ C)).drop a).take n = B := by
  subst ha hn; simp
/-- What begins with a frame is read so. -/
theorem read_frame (k e : Nat) (b : ByteArray) (r : List UInt8) (h1 : 1 ≤ k) (h2 : k ≤ 255) (he : e ≤ 18446744073709551615) (hb : b.size ≤ 8192) (s : ByteArray) (hs : s = str (frameL k e b.data.toList ++ r)) :
    codeS s = 0 ∧ kindS s = k ∧ epS s = e ∧ bodyS s = b ∧ restS s = str r ∧ lenN s = b.size := by
  have hbl : b.data.toList.length = b.size := by simp
  obtain ⟨L4, hL4⟩ : ∃ L4, L4 = le4 (crcV (hdr k e b.size ++ b.data.toList)) := ⟨_, rfl⟩
  have hl : s.data.toList = [79, 70, 1] ++ (be k 1 ++ (be e 8 ++ (be b.size 4 ++ (b.data.toList ++ (L4 ++ r))))) := by
    rw [hs, data_str, hL4]; simp [frameL, markL, hdr]
  have hz : s.size = b.size + 20 + r.length := by rw [hs, size_str]; simp [frameL_length]
  have l1 := be_length k 1
  have l2 := be_length e 8
  have l3 := be_length b.size 4
  have l4 : L4.length = 4 := by rw [hL4]; rfl
  have g2 := gt_be 8 e (by have : (256 : Nat) ^ 8 = 18446744073709551616 := by rfl
                           omega)
  have g3 := gt_be 4 b.size (by omega)
  have hn : lenN s = b.size := by
    unfold lenN; rw [ext_list, hl]
    have h := mid_list ([79, 70, 1] ++ (be k 1 ++ be e 8)) (be b.size 4) (b.data.toList ++ (L4 ++ r)) 12 4 (by simp [l1, l2]) l3
    simp only [List.append_assoc] at h
    rw [h]; exact g3
  have hep : epS s = e := by
    unfold epS; rw [ext_list, hl]
    have h := mid_list ([79, 70, 1] ++ be k 1) (be e 8) (be b.size 4 ++ (b.data.toList ++ (L4 ++ r))) 4 8 (by simp [l1]) l2
    simp only [List.append_assoc] at h
    rw [h]; exact g2
  have hk : kindS s = k := by
    unfold kindS; rw [hl, be_one]
    show (UInt8.ofNat k).toNat = k
    rw [UInt8.toNat_ofNat', Nat.mod_eq_of_lt (by omega)]
  have hbd : bodyS s = b := by
    unfold bodyS
    apply ByteArray.ext
    apply Array.ext'
    rw [ext_list, hn, hl]
    have h := mid_list ([79, 70, 1] ++ (be k 1 ++ (be e 8 ++ be b.size 4))) b.data.toList (L4 ++ r) 16 b.size (by simp [l1, l2, l3]) hbl
    simp only [List.append_assoc] at h
    rw [show b.size + 16 - 16 = b.size by omega]; exact h
  have hrs : restS s = str r := by
    unfold restS
    apply ByteArray.ext
    apply Array.ext'
    rw [ext_list, hn, hl, data_str]
    have h := mid_list ([79, 70, 1] ++ (be k 1 ++ (be e 8 ++ (be b.size 4 ++ (b.data.toList ++ L4))))) r [] (b.size + 20) r.length (by simp [l1, l2, l3, l4, hbl]; omega) rfl
    simp only [List.append_assoc, List.append_nil] at h
    rw [show s.size - (b.size + 20) = r.length by omega]; exact h
  refine ⟨?_, hk, hep, hbd, hrs, hn⟩
  have hp : preS s = true := by
    unfold preS; rw [pre_iff, hl]; rfl
  have hok : okS s := by
    unfold okS
    rw [hn, hk, hep, hbd, hs, data_str]
    have h := mid_list [] (frameL k e b.data.toList) r 0 (b.size + 20) rfl (by rw [frameL_length, hbl])
    simpa using h
  unfold codeS
  rw [if_neg (by omega), if_neg (by rw [hp]; simp), if_neg (by omega), if_neg (by omega), if_neg (by omega), if_pos hok]

/-- What is read whole is marked. -/
theorem parse_marked (s : ByteArray) (h : codeP s = 0) : ∃ t : List UInt8, s.data.toList = markL t := by
  unfold codeP at h
  by_cases h1 : codeS s = 0
  · rw [if_pos h1] at h
    by_cases h2 : (rR s).size = 0
    · obtain ⟨_, _, _, _, _, h20, hok⟩ := code_ok h1
      rw [(r_ok h1).2.2.2.1] at h2
      unfold restS at h2
      rw [ByteArray.size_extract] at h2
      have hl : s.data.toList.length = s.size := by simp
      have e : s.data.toList.take (lenN s + 20) = s.data.toList := List.take_of_length_le (by omega)
      unfold okS at hok
      rw [e] at hok
      exact ⟨_, hok⟩
    · rw [if_neg h2] at h; omega
  · rw [if_neg h1] at h; omega
/-- A frame is read as it was. -/
theorem parse_frame (k e : Nat) (b : ByteArray) (h1 : 1 ≤ k) (h2 : k ≤ 255) (he : e ≤ 18446744073709551615) (hb : b.size ≤ 8192) (s : ByteArray) (hs : s = str (frameL k e b.data.toList)) :
    codeP s = 0 ∧ pK s = k ∧ pE s = e ∧ pB s = b := by
  obtain ⟨c, q1, q2, q3, q4, q5⟩ := read_frame k e b [] h1 h2 he hb s (by rw [hs]; simp)
  obtain ⟨r1, r2, r3, r4, _⟩ := r_ok c
  have hP : codeP s = 0 := by
    unfold codeP
    rw [if_pos c, r4, q4, if_pos (by rfl)]
  unfold pK pE pB
  rw [if_pos hP, if_pos hP, if_pos hP, r1, r2, r3]
  exact ⟨hP, q1, q2, q3⟩
end Go.Proofs.Ytlochpnifjmefaa
