/- frame.Next and frame.Parse of any text; what is read of a frame, and of one that is turned.; The document's Next of a frame: the errors ahead of the sum.; Walk of the law FrameBytes: frames that may not be. -/
import Derived.Test.YtdojepkmjifoeaaJ09
set_option linter.unusedVariables false
set_option linter.unusedSimpArgs false
namespace Go.Proofs.Ytdojepkmjifoeaa
open Go.RowKit

theorem rest_size (s : ByteArray) : (rR s).size ≤ s.size := by
  unfold rR; split
  · unfold restS; rw [ByteArray.size_extract]; omega
  · exact Nat.zero_le _
/-- What Parse answers: the error, the frame. -/
def codeP (s : ByteArray) : Nat := if codeS s = 0 then (if (rR s).size = 0 then 0 else 4) else codeS s
def pK (s : ByteArray) : Nat := if codeP s = 0 then rK s else 0
def pE (s : ByteArray) : Nat := if codeP s = 0 then rE s else 0
def pB (s : ByteArray) : ByteArray := if codeP s = 0 then rB s else ⟨#[]⟩
theorem code_lt (s : ByteArray) : codeS s < 1000 := by
  unfold codeS; repeat' split
  all_goals omega
theorem parse_any (s : ByteArray) (hmax : s.size ≤ 1000000000) (w : World) :
    Calls Try.prog 24 #[.string s] w fun r w' => r = .returned (paV (pK s) (pE s) (pB s) (codeP s)) ∧ Below w.heap.size w w' := by
  have hr := read_any s hmax
  have hlt := code_lt s
  by_cases h1 : codeS s = 0
  · by_cases h2 : (rR s).size = 0
    · have hc : codeP s = 0 := by unfold codeP; rw [if_pos h1, if_pos h2]
      unfold pK pE pB
      rw [if_pos hc, if_pos hc, if_pos hc, hc]
      rw [h1] at hr
      exact parse_fine s _ _ _ _ h2 hr w
    · have hc : codeP s = 4 := by unfold codeP; rw [if_pos h1, if_neg h2]
      unfold pK pE pB
      rw [if_neg (by omega), if_neg (by omega), if_neg (by omega), hc]
      rw [h1] at hr
      exact parse_form s _ _ _ _ (by omega) hr w
  · have hc : codeP s = codeS s := by unfold codeP; rw [if_neg h1]
    unfold pK pE pB
    rw [if_neg (by omega), if_neg (by omega), if_neg (by omega), hc]
    obtain ⟨a, b, c, d, _⟩ := r_bad h1
    rw [a, b, c, d] at hr
    exact parse_bad s _ h1 hlt hr w

theorem mid_list (A B C : List UInt8) (a n : Nat) (ha : A.length = a) (hn : B.length = n) : ((A ++ (B ++ C)).drop a).take n = B := by
  subst ha hn; simp
/-- What begins with a frame is read so. -/
theorem read_frame (k e : Nat) (b : ByteArray) (r : List UInt8) (h1 : 1 ≤ k) (h2 : k ≤ 255) (he : e ≤ 18446744073709551615) (hb : b.size ≤ 8192) (s : ByteArray) (hs : s = str (frameL k e b.data.toList ++ r)) :
    codeS s = 0 ∧ kindS s = k ∧ epS s = e ∧ bodyS s = b ∧ restS s = str r ∧ lenN s = b.size := by
  have hbl : b.data.toList.length = b.size := by simp
  obtain ⟨L4, hL4⟩ : ∃ L4, L4 = le4 (crcV (hdr k e b.size ++ b.data.toList)) := ⟨_, rfl⟩
  have hl : s.data.toList = [79, 70, 1] ++ (be k 1 ++ (be e 8 ++ (be b.size 4 ++ (b.data.toList ++ (L4 ++ r))))) := by
    rw [hs, data_str, hL4]; simp [frameL, markL, hdr]
  have hz : s.size = b.size + 20 + r.length := by rw [hs, size_str]; simp [frameL_length]
  have l1 := be_length k 1
  have l2 := be_length e 8
  have l3 := be_length b.size 4
  have l4 : L4.length = 4 := by rw [hL4]; rfl
  have g2 := gt_be 8 e (by have : (256 : Nat) ^ 8 = 18446744073709551616 := by rfl
                           omega)
  have g3 := gt_be 4 b.size (by omega)
  have hn : lenN s = b.size := by
    unfold lenN; rw [ext_list, hl]
    have h := mid_list ([79, 70, 1] ++ (be k 1 ++ be e 8)) (be b.size 4) (b.data.toList ++ (L4 ++ r)) 12 4 (by simp [l1, l2]) l3
    simp only [List.append_assoc] at h
    rw [h]; exact g3
  have hep : epS s = e := by
    unfold epS; rw [ext_list, hl]
    have h := mid_list ([79, 70, 1] ++ be k 1) (be e 8) (be b.size 4 ++ (b.data.toList ++ (L4 ++ r))) 4 8 (by simp [l1]) l2
    simp only [List.append_assoc] at h
    rw [h]; exact g2
  have hk : kindS s = k := by
    unfold kindS; rw [hl, be_one]
    show (UInt8.ofNat k).toNat = k
    rw [UInt8.toNat_ofNat', Nat.mod_eq_of_lt (by omega)]
  have hbd : bodyS s = b := by
    unfold bodyS
    apply ByteArray.ext
    apply Array.ext'
    rw [ext_list, hn, hl]
    have h := mid_list ([79, 70, 1] ++ (be k 1 ++ (be e 8 ++ be b.size 4))) b.data.toList (L4 ++ r) 16 b.size (by simp [l1, l2, l3]) hbl
    simp only [List.append_assoc] at h
    rw [show b.size + 16 - 16 = b.size by omega]; exact h
  have hrs : restS s = str r := by
    unfold restS
    apply ByteArray.ext
    apply Array.ext'
    rw [ext_list, hn, hl, data_str]
    have h := mid_list ([79, 70, 1] ++ (be k 1 ++ (be e 8 ++ (be b.size 4 ++ (b.data.toList ++ L4))))) r [] (b.size + 20) r.length (by simp [l1, l2, l3, l4, hbl]; omega) rfl
    simp only [List.append_assoc, List.append_nil] at h
    rw [show s.size - (b.size + 20) = r.length by omega]; exact h
  refine ⟨?_, hk, hep, hbd, hrs, hn⟩
  have hp : preS s = true := by
    unfold preS; rw [pre_iff, hl]; rfl
  have hok : okS s := by
    unfold okS
    rw [hn, hk, hep, hbd, hs, data_str]
    have h := mid_list [] (frameL k e b.data.toList) r 0 (b.size + 20) rfl (by rw [frameL_length, hbl])
    simpa using h
  unfold codeS
  rw [if_neg (by omega), if_neg (by rw [hp]; simp), if_neg (by omega), if_neg (by omega), if_neg (by omega), if_pos hok]

/-- What is read whole is marked. -/
theorem parse_marked (s : ByteArray) (h : codeP s = 0) : ∃ t : List UInt8, s.data.toList = markL t := by
  unfold codeP at h
  by_cases h1 : codeS s = 0
  · rw [if_pos h1] at h
    by_cases h2 : (rR s).size = 0
    · obtain ⟨_, _, _, _, _, h20, hok⟩ := code_ok h1
      rw [(r_ok h1).2.2.2.1] at h2
      unfold restS at h2
      rw [ByteArray.size_extract] at h2
      have hl : s.data.toList.length = s.size := by simp
      have e : s.data.toList.take (lenN s + 20) = s.data.toList := List.take_of_length_le (by omega)
      unfold okS at hok
      rw [e] at hok
      exact ⟨_, hok⟩
    · rw [if_neg h2] at h; omega
  · rw [if_neg h1] at h; omega
/-- A frame is read as it was. -/
theorem parse_frame (k e : Nat) (b : ByteArray) (h1 : 1 ≤ k) (h2 : k ≤ 255) (he : e ≤ 18446744073709551615) (hb : b.size ≤ 8192) (s : ByteArray) (hs : s = str (frameL k e b.data.toList)) :
    codeP s = 0 ∧ pK s = k ∧ pE s = e ∧ pB s = b := by
  obtain ⟨c, q1, q2, q3, q4, q5⟩ := read_frame k e b [] h1 h2 he hb s (by rw [hs]; simp)
  obtain ⟨r1, r2, r3, r4, _⟩ := r_ok c
  have hP : codeP s = 0 := by
    unfold codeP
    rw [if_pos c, r4, q4, if_pos (by rfl)]
  unfold pK pE pB
  rw [if_pos hP, if_pos hP, if_pos hP, r1, r2, r3]
  exact ⟨hP, q1, q2, q3⟩
end Go.Proofs.Ytdojepkmjifoeaa

namespace Go.Proofs.Ytdojepkmjifoeaa
open Go.RowKit

/-- What the document's Next answers. -/
def rnV (k e : Nat) (b : ByteArray) (n c : Nat) : Value := .tuple #[.agg #[.int .i64 (k : Int), .int .u64 (e : Int), .string b], .int .i64 (n : Int), .int .i64 (c : Int)]

theorem take3 (s : ByteArray) (h : 3 ≤ s.size) : s.data.toList.take 3 = [s[0], s[1], s[2]] := by
  have hl : s.data.toList.length = s.size := by simp
  have e0 : s.data.toList[0]'(by omega) = s[0] := rfl
  have e1 : s.data.toList[1]'(by omega) = s[1] := rfl
  have e2 : s.data.toList[2]'(by omega) = s[2] := rfl
  rw [List.take_succ_eq_append_getElem (by omega), List.take_succ_eq_append_getElem (by omega), List.take_succ_eq_append_getElem (by omega), e0, e1, e2]
  rfl
theorem pre_bytes (s : ByteArray) (h : 3 ≤ s.size) : preS s = true ↔ (s[0].toNat = 79 ∧ s[1].toNat = 70 ∧ s[2].toNat = 1) := by
  unfold preS
  rw [pre_iff, take3 s h]
  simp only [List.cons.injEq, and_true, ← UInt8.toNat_inj]
  exact Iff.rfl

theorem rnext_short (s : ByteArray) (hs : s.size < 20) (w : World) :
    Calls Try.prog 28 #[.string s] w fun r w' => r = .returned (rnV 0 0 ⟨#[]⟩ 0 3) ∧ Below w.heap.size w w' := by
  go_enter Try.func28, Try.ntmps28
  go_wp2
  exact bodyPost_ret (v := rnV 0 0 ⟨#[]⟩ 0 3) (by simp [results, Try.results28, go_sem, rnV]) rfl ⟨rfl, (Below.refl _ _).alloc (Nat.le_refl _) _⟩
theorem rnext_form (s : ByteArray) (hs : 20 ≤ s.size) (hp : preS s = false) (w : World) :
    Calls Try.prog 28 #[.string s] w fun r w' => r = .returned (rnV 0 0 ⟨#[]⟩ 0 4) ∧ Below w.heap.size w w' := by
  have h20 : ¬ s.size < 20 := by omega
  have h0 : 0 < s.size := by omega
  have h1 : 1 < s.size := by omega
  have h2 : 2 < s.size := by omega
  have hnot : ¬ (s[0].toNat = 79 ∧ s[1].toNat = 70 ∧ s[2].toNat = 1) := by
    rw [← pre_bytes s (by omega), hp]; simp
  clear hp
  by_cases b0 : s[0].toNat = 79
  · have q0 : ((s[0].toNat : Int) != 79) = false := by rw [b0]; rfl
    by_cases b1 : s[1].toNat = 70
    · have q1 : ((s[1].toNat : Int) != 70) = false := by rw [b1]; rfl
      have q2 : ((s[2].toNat : Int) != 1) = true := by
        have h3 : ¬ s[2].toNat = 1 := fun h => hnot ⟨b0, b1, h⟩
        simp; omega
      clear hnot b0 b1
      go_enter Try.func28, Try.ntmps28
      go_wp2
      exact bodyPost_ret (v := rnV 0 0 ⟨#[]⟩ 0 4) (by simp [results, Try.results28, go_sem, rnV]) rfl ⟨rfl, (Below.refl _ _).alloc (Nat.le_refl _) _⟩
    · have q1 : ((s[1].toNat : Int) != 70) = true := by simp; omega
      clear hnot b0 b1
      go_enter Try.func28, Try.ntmps28
      go_wp2
      exact bodyPost_ret (v := rnV 0 0 ⟨#[]⟩ 0 4) (by simp [results, Try.results28, go_sem, rnV]) rfl ⟨rfl, (Below.refl _ _).alloc (Nat.le_refl _) _⟩
  · have q0 : ((s[0].toNat : Int) != 79) = true := by simp; omega
    clear hnot b0
    go_enter Try.func28, Try.ntmps28
    go_wp2
    exact bodyPost_ret (v := rnV 0 0 ⟨#[]⟩ 0 4) (by simp [results, Try.results28, go_sem, rnV]) rfl ⟨rfl, (Below.refl _ _).alloc (Nat.le_refl _) _⟩

theorem rnum_call (s : ByteArray) (hs : 20 ≤ s.size) (n : Nat) (hn : lenN s = n) (w : World) : Calls Try.prog 51 #[.string (s.extract 12 16)] w fun e w' => e = .returned (.int .u64 (n : Int)) ∧ w = w' := by
  subst hn
  exact rget_ok (s.extract 12 16) (by rw [ByteArray.size_extract]; omega) w
theorem rep_call (s : ByteArray) (hs : 20 ≤ s.size) (n : Nat) (hn : epS s = n) (w : World) : Calls Try.prog 51 #[.string (s.extract 4 12)] w fun e w' => e = .returned (.int .u64 (n : Int)) ∧ w = w' := by
  subst hn
  exact rget_ok (s.extract 4 12) (by rw [ByteArray.size_extract]; omega) w

theorem rnext_kind (s : ByteArray) (hs : 20 ≤ s.size) (hp : preS s = true) (hk : kindS s = 0) (w : World) :
    Calls Try.prog 28 #[.string s] w fun r w' => r = .returned (rnV 0 0 ⟨#[]⟩ 0 10) ∧ Below w.heap.size w w' := by
  have h20 : ¬ s.size < 20 := by omega
  have h0 : 0 < s.size := by omega
  have h1 : 1 < s.size := by omega
  have h2 : 2 < s.size := by omega
  have h3 : 3 < s.size := by omega
  obtain ⟨b0, b1, b2⟩ := (pre_bytes s (by omega)).1 hp
  have q0 : ((s[0].toNat : Int) != 79) = false := by rw [b0]; rfl
  have q1 : ((s[1].toNat : Int) != 70) = false := by rw [b1]; rfl
  have q2 : ((s[2].toNat : Int) != 1) = false := by rw [b2]; rfl
  have hz : ((s[3].toNat : Int) == 0) = true := by rw [← kind_at s h3, hk]; rfl
  clear hk hp b0 b1 b2
  go_enter Try.func28, Try.ntmps28
  go_wp2
  exact bodyPost_ret (v := rnV 0 0 ⟨#[]⟩ 0 10) (by simp [results, Try.results28, go_sem, rnV]) rfl ⟨rfl, (Below.refl _ _).alloc (Nat.le_refl _) _⟩
theorem rnext_long (s : ByteArray) (hs : 20 ≤ s.size) (hp : preS s = true) (hk : kindS s ≠ 0) (hn : 8192 < lenN s) (w : World) :
    Calls Try.prog 28 #[.string s] w fun r w' => r = .returned (rnV 0 0 ⟨#[]⟩ 0 5) ∧ Below w.heap.size w w' := by
  have h20 : ¬ s.size < 20 := by omega
  have h0 : 0 < s.size := by omega
  have h1 : 1 < s.size := by omega
  have h2 : 2 < s.size := by omega
  have h3 : 3 < s.size := by omega
  obtain ⟨b0, b1, b2⟩ := (pre_bytes s (by omega)).1 hp
  have q0 : ((s[0].toNat : Int) != 79) = false := by rw [b0]; rfl
  have q1 : ((s[1].toNat : Int) != 70) = false := by rw [b1]; rfl
  have q2 : ((s[2].toNat : Int) != 1) = false := by rw [b2]; rfl
  have hz : ((s[3].toNat : Int) == 0) = false := by rw [← kind_at s h3, beq_eq_false_iff_ne]; omega
  have K2 := Lib.hid (rnum_call s hs _ rfl)
  generalize lenN s = n at *
  clear hk hp b0 b1 b2
  go_enter Try.func28, Try.ntmps28
  go_wp2_with fail
  refine (K2.out _).mono ?_
  rintro r w1 ⟨rfl, rfl⟩
  go_wp2
  exact bodyPost_ret (v := rnV 0 0 ⟨#[]⟩ 0 5) (by simp [results, Try.results28, go_sem, rnV]) rfl ⟨rfl, (Below.refl _ _).alloc (Nat.le_refl _) _⟩
theorem rnext_cut (s : ByteArray) (hs : 20 ≤ s.size) (hp : preS s = true) (hk : kindS s ≠ 0) (hn : lenN s ≤ 8192) (hc : s.size < lenN s + 20) (w : World) :
    Calls Try.prog 28 #[.string s] w fun r w' => r = .returned (rnV 0 0 ⟨#[]⟩ 0 3) ∧ Below w.heap.size w w' := by
  have h20 : ¬ s.size < 20 := by omega
  have h0 : 0 < s.size := by omega
  have h1 : 1 < s.size := by omega
  have h2 : 2 < s.size := by omega
  have h3 : 3 < s.size := by omega
  obtain ⟨b0, b1, b2⟩ := (pre_bytes s (by omega)).1 hp
  have q0 : ((s[0].toNat : Int) != 79) = false := by rw [b0]; rfl
  have q1 : ((s[1].toNat : Int) != 70) = false := by rw [b1]; rfl
  have q2 : ((s[2].toNat : Int) != 1) = false := by rw [b2]; rfl
  have hz : ((s[3].toNat : Int) == 0) = false := by rw [← kind_at s h3, beq_eq_false_iff_ne]; omega
  have K2 := Lib.hid (rnum_call s hs _ rfl)
  generalize lenN s = n at *
  have hw : IntKind.i64.wrap (n : Int) = (n : Int) := IntWalk.i64_in _ (by omega)
  have hlt : (s.size : Int) < 20 + (n : Int) := by omega
  clear hk hp b0 b1 b2
  go_enter Try.func28, Try.ntmps28
  go_wp2_with fail
  refine (K2.out _).mono ?_
  rintro r w1 ⟨rfl, rfl⟩
  go_wp2
  exact bodyPost_ret (v := rnV 0 0 ⟨#[]⟩ 0 3) (by simp [results, Try.results28, go_sem, rnV]) rfl ⟨rfl, (Below.refl _ _).alloc (Nat.le_refl _) _⟩
end Go.Proofs.Ytdojepkmjifoeaa

namespace Go.Proofs.Ytdojepkmjifoeaa
open Go.RowKit

/-- Three cells of a block. -/
theorem three_below {w w' : World} {B g : Nat} {a b c : Value} (h : w.cell? ⟨g, 0, none⟩ = some a ∧ w.cell? ⟨g, 1, none⟩ = some b ∧ w.cell? ⟨g, 2, none⟩ = some c) (hb : Below B w w') (hg : g < B) : w'.cell? ⟨g, 0, none⟩ = some a ∧ w'.cell? ⟨g, 1, none⟩ = some b ∧ w'.cell? ⟨g, 2, none⟩ = some c :=
  ⟨(hb.cell (p := ⟨g, 0, none⟩) hg).trans h.1, (hb.cell (p := ⟨g, 1, none⟩) hg).trans h.2.1, (hb.cell (p := ⟨g, 2, none⟩) hg).trans h.2.2⟩
theorem three_new (w : World) (a b c : Value) (t : Nat) : (w.alloc (.cells #[a, b, c] t)).cell? ⟨w.heap.size, 0, none⟩ = some a ∧ (w.alloc (.cells #[a, b, c] t)).cell? ⟨w.heap.size, 1, none⟩ = some b ∧ (w.alloc (.cells #[a, b, c] t)).cell? ⟨w.heap.size, 2, none⟩ = some c :=
  ⟨cell_new w _ t 0, cell_new w _ t 1, cell_new w _ t 2⟩
theorem alloc_below (w : World) (o : Obj) : Below w.heap.size w (w.alloc o) := (Below.refl _ _).alloc (Nat.le_refl _) _
theorem alloc_lt (w : World) (o : Obj) : w.heap.size < (w.alloc o).heap.size := by simp

end Go.Proofs.Ytdojepkmjifoeaa
