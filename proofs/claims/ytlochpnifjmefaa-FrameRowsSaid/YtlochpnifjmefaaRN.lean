/- The document's Next of a frame: the errors ahead of the sum. -/
import Derived.Test.YtlochpnifjmefaaFC
namespace Go.Proofs.Ytlochpnifjmefaa
open Go.RowKit

/-- What the document's Next answers. -/
def rnV (k e : Nat) (b : ByteArray) (n c : Nat) : Value := .tuple #[.agg #[.int .i64 (k : Int), .int .u64 (e : Int), .string b], .int .i64 (n : Int), .int .i64 (c : Int)]

theorem take3 (s : ByteArray) (h : 3 ≤ s.size) : s.data.toList.take 3 = [s[0], s[1], s[2]] := by
  have hl : s.data.toList.length = s.size := by simp
  have e0 : s.data.toList[0]'(by omega) = s[0] := rfl
  have e1 : s.data.toList[1]'(by omega) = s[1] := rfl
  have e2 : s.data.toList[2]'(by omega) = s[2] := rfl
  rw [List.take_succ_eq_append_getElem (by omega), List.take_succ_eq_append_getElem (by omega), List.take_succ_eq_append_getElem (by omega), e0, e1, e2]
  rfl
theorem pre_bytes (s : ByteArray) (h : 3 ≤ s.size) : preS s = true ↔ (s[0].toNat = 79 ∧ s[1].toNat = 70 ∧ s[2].toNat = 1) := by
  unfold preS
  rw [pre_iff, take3 s h]
  simp only [List.cons.injEq, and_true, ← UInt8.toNat_inj]
  exact Iff.rfl

theorem rnext_short (s : ByteArray) (hs : s.size < 20) (w : World) :
    Calls Try.prog 28 #[.string s] w fun r w' => r = .returned (rnV 0 0 ⟨#[]⟩ 0 3) ∧ Below w.heap.size w w' := by
  go_enter Try.func28, Try.ntmps28
  go_wp2
  exact bodyPost_ret (v := rnV 0 0 ⟨#[]⟩ 0 3) (by simp [results, Try.results28, go_sem, rnV]) rfl ⟨rfl, (Below.refl _ _).alloc (Nat.le_refl _) _⟩
theorem rnext_form (s : ByteArray) (hs : 20 ≤ s.size) (hp : preS s = false) (w : World) :
    Calls Try.prog 28 #[.string s] w fun r w' => r = .returned (rnV 0 0 ⟨#[]⟩ 0 4) ∧ Below w.heap.size w w' := by
  have h20 : ¬ s.size < 20 := by omega
  have h0 : 0 < s.size := by omega
  have h1 : 1 < s.size := by omega
  have h2 : 2 < s.size := by omega
  have hnot : ¬ (s[0].toNat = 79 ∧ s[1].toNat = 70 ∧ s[2].toNat = 1) := by
    rw [← pre_bytes s (by omega), hp]; simp
  clear hp
  by_cases b0 : s[0].toNat = 79
  · have q0 : ((s[0].toNat : Int) != 79) = false := by rw [b0]; rfl
    by_cases b1 : s[1].toNat = 70
    · have q1 : ((s[1].toNat : Int) != 70) = false := by rw [b1]; rfl
      have q2 : ((s[2].toNat : Int) != 1) = true := by
        have h3 : ¬ s[2].toNat = 1 := fun h => hnot ⟨b0, b1, h⟩
        simp; omega
      clear hnot b0 b1
      go_enter Try.func28, Try.ntmps28
      go_wp2
      exact bodyPost_ret (v := rnV 0 0 ⟨#[]⟩ 0 4) (by simp [results, Try.results28, go_sem, rnV]) rfl ⟨rfl, (Below.refl _ _).alloc (Nat.le_refl _) _⟩
    · have q1 : ((s[1].toNat : Int) != 70) = true := by simp; omega
      clear hnot b0 b1
      go_enter Try.func28, Try.ntmps28
      go_wp2
      exact bodyPost_ret (v := rnV 0 0 ⟨#[]⟩ 0 4) (by simp [results, Try.results28, go_sem, rnV]) rfl ⟨rfl, (Below.refl _ _).alloc (Nat.le_refl _) _⟩
  · have q0 : ((s[0].toNat : Int) != 79) = true := by simp; omega
    clear hnot b0
    go_enter Try.func28, Try.ntmps28
    go_wp2
    exact bodyPost_ret (v := rnV 0 0 ⟨#[]⟩ 0 4) (by simp [results, Try.results28, go_sem, rnV]) rfl ⟨rfl, (Below.refl _ _).alloc (Nat.le_refl _) _⟩

theorem rnum_call (s : ByteArray) (hs : 20 ≤ s.size) (n : Nat) (hn : lenN s = n) (w : World) : Calls Try.prog 47 #[.string (s.extract 12 16)] w fun e w' => e = .returned (.int .u64 (n : Int)) ∧ w = w' := by
  subst hn
  exact rget_ok (s.extract 12 16) (by rw [ByteArray.size_extract]; omega) w
theorem rep_call (s : ByteArray) (hs : 20 ≤ s.size) (n : Nat) (hn : epS s = n) (w : World) : Calls Try.prog 47 #[.string (s.extract 4 12)] w fun e w' => e = .returned (.int .u64 (n : Int)) ∧ w = w' := by
  subst hn
  exact rget_ok (s.extract 4 12) (by rw [ByteArray.size_extract]; omega) w

theorem rnext_kind (s : ByteArray) (hs : 20 ≤ s.size) (hp : preS s = true) (hk : kindS s = 0) (w : World) :
    Calls Try.prog 28 #[.string s] w fun r w' => r = .returned (rnV 0 0 ⟨#[]⟩ 0 10) ∧ Below w.heap.size w w' := by
  have h20 : ¬ s.size < 20 := by omega
  have h0 : 0 < s.size := by omega
  have h1 : 1 < s.size := by omega
  have h2 : 2 < s.size := by omega
  have h3 : 3 < s.size := by omega
  obtain ⟨b0, b1, b2⟩ := (pre_bytes s (by omega)).1 hp
  have q0 : ((s[0].toNat : Int) != 79) = false := by rw [b0]; rfl
  have q1 : ((s[1].toNat : Int) != 70) = false := by rw [b1]; rfl
  have q2 : ((s[2].toNat : Int) != 1) = false := by rw [b2]; rfl
  have hz : ((s[3].toNat : Int) == 0) = true := by rw [← kind_at s h3, hk]; rfl
  clear hk hp b0 b1 b2
  go_enter Try.func28, Try.ntmps28
  go_wp2
  exact bodyPost_ret (v := rnV 0 0 ⟨#[]⟩ 0 10) (by simp [results, Try.results28, go_sem, rnV]) rfl ⟨rfl, (Below.refl _ _).alloc (Nat.le_refl _) _⟩
theorem rnext_long (s : ByteArray) (hs : 20 ≤ s.size) (hp : preS s = true) (hk : kindS s ≠ 0) (hn : 8192 < lenN s) (w : World) :
    Calls Try.prog 28 #[.string s] w fun r w' => r = .returned (rnV 0 0 ⟨#[]⟩ 0 5) ∧ Below w.heap.size w w' := by
  have h20 : ¬ s.size < 20 := by omega
  have h0 : 0 < s.size := by omega
  have h1 : 1 < s.size := by omega
  have h2 : 2 < s.size := by omega
  have h3 : 3 < s.size := by omega
  obtain ⟨b0, b1, b2⟩ := (pre_bytes s (by omega)).1 hp
  have q0 : ((s[0].toNat : Int) != 79) = false := by rw [b0]; rfl
  have q1 : ((s[1].toNat : Int) != 70) = false := by rw [b1]; rfl
  have q2 : ((s[2].toNat : Int) != 1) = false := by rw [b2]; rfl
  have hz : ((s[3].toNat : Int) == 0) = false := by rw [← kind_at s h3, beq_eq_false_iff_ne]; omega
  have K2 := Lib.hid (rnum_call s hs _ rfl)
  generalize lenN s = n at *
  clear hk hp b0 b1 b2
  go_enter Try.func28, Try.ntmps28
  go_wp2_with fail
  refine (K2.out _).mono ?_
  rintro r w1 ⟨rfl, rfl⟩
  go_wp2
  exact bodyPost_ret (v := rnV 0 0 ⟨#[]⟩ 0 5) (by simp [results, Try.results28, go_sem, rnV]) rfl ⟨rfl, (Below.refl _ _).alloc (Nat.le_refl _) _⟩
theorem rnext_cut (s : ByteArray) (hs : 20 ≤ s.size) (hp : preS s = true) (hk : kindS s ≠ 0) (hn : lenN s ≤ 8192) (hc : s.size < lenN s + 20) (w : World) :
    Calls Try.prog 28 #[.string s] w fun r w' => r = .returned (rnV 0 0 ⟨#[]⟩ 0 3) ∧ Below w.heap.size w w' := by
  have h20 : ¬ s.size < 20 := by omega
  have h0 : 0 < s.size := by omega
  have h1 : 1 < s.size := by omega
  have h2 : 2 < s.size := by omega
  have h3 : 3 < s.size := by omega
  obtain ⟨b0, b1, b2⟩ := (pre_bytes s (by omega)).1 hp
  have q0 : ((s[0].toNat : Int) != 79) = false := by rw [b0]; rfl
  have q1 : ((s[1].toNat : Int) != 70) = false := by rw [b1]; rfl
  have q2 : ((s[2].toNat : Int) != 1) = false := by rw [b2]; rfl
  have hz : ((s[3].toNat : Int) == 0) = false := by rw [← kind_at s h3, beq_eq_false_iff_ne]; omega
  have K2 := Lib.hid (rnum_call s hs _ rfl)
  generalize lenN s = n at *
  have hw : IntKind.i64.wrap (n : Int) = (n : Int) := IntWalk.i64_in _ (by omega)
  have hlt : (s.size : Int) < 20 + (n : Int) := by omega
  clear hk hp b0 b1 b2
  go_enter Try.func28, Try.ntmps28
  go_wp2_with fail
  refine (K2.out _).mono ?_
  rintro r w1 ⟨rfl, rfl⟩
  go_wp2
  exact bodyPost_ret (v := rnV 0 0 ⟨#[]⟩ 0 3) (by simp [results, Try.results28, go_sem, rnV]) rfl ⟨rfl, (Below.refl _ _).alloc (Nat.le_refl _) _⟩
end Go.Proofs.Ytlochpnifjmefaa
