/- frame.number, frame.read; awake. -/
import Derived.Test.YtlochpnifjmefaaFB
namespace Go.Proofs.Ytlochpnifjmefaa
open Go.RowKit

theorem awake2b_any (w : World) : Calls Try.prog 41 #[] w fun e w' => e = .returned (.bool true) ∧ Below w.heap.size w w' := by
  have hB := Below.refl w.heap.size w
  go_enter Try.func41, Try.ntmps41
  go_wp2_with (first
    | (go_at_call 56; go_must (refine (awake2_any _).mono ?_); rintro e w1 ⟨rfl, hb1⟩; replace hB := hB.trans (hb1.mono hB.size)))
  go_ret
  exact ⟨rfl, hB⟩
theorem awake8_any (w : World) : Calls Try.prog 22 #[] w fun e w' => e = .returned (.bool true) ∧ Below w.heap.size w w' := by
  have k1 := fun w => bytes_ok 1 0 ⟨#[]⟩ (by omega) (by omega) (by omega) (by decide) w
  have hL : (frameL 1 0 (⟨#[]⟩ : ByteArray).data.toList).length = 20 := by rw [frameL_length]; rfl
  generalize frameL 1 0 (⟨#[]⟩ : ByteArray).data.toList = M at *
  have hS : (str M).size = 20 := by rw [size_str, hL]
  have K1 := Lib.hid k1
  have K2 := Lib.hid (fun w => size_any 0 (by omega) w)
  clear k1 hL
  have hB := Below.refl w.heap.size w
  go_enter Try.func22, Try.ntmps22
  go_wp2_with (first
    | (go_at_call 23; go_must (refine (K1.out _).mono ?_); rintro e w1 ⟨rfl, hb1⟩; replace hB := hB.trans (hb1.mono hB.size))
    | (go_at_call 41; go_must (refine (awake2b_any _).mono ?_); rintro e w2 ⟨rfl, hb2⟩; replace hB := hB.trans (hb2.mono hB.size))
    | (go_at_call 27; go_must (refine (K2.out _).mono ?_); rintro e w3 ⟨rfl, rfl⟩))
  go_ret
  exact ⟨rfl, hB⟩

theorem number_any (s : ByteArray) (h1 : 1 ≤ s.size) (h2 : s.size ≤ 8) (w : World) : Calls Try.prog 60 #[.string s] w fun e w' => e = .returned (.int .u64 (gt s.data.toList)) ∧ w = w' := by
  have K1 := Lib.hid (fun w => get_ok s h1 h2 w)
  go_enter Try.func60, Try.ntmps60
  go_wp2_with (first
    | (go_at_call 65; go_must (refine (K1.out _).mono ?_); rintro e w1 ⟨rfl, rfl⟩))
  go_ret
  exact ⟨rfl, rfl⟩

/-- What reading answers. -/
def rdV (k e : Nat) (b r : ByteArray) (c : Nat) : Value := .tuple #[.agg #[.int .i64 (k : Int), .int .u64 (e : Int), .string b], .string r, .int .i64 (c : Int)]

/-- A block that holds a frame, and is the call's own. -/
def Frz (w : World) (g : Nat) (k e : Nat) (b : ByteArray) : Prop :=
  w.cell? ⟨g, 0, none⟩ = some (.int .i64 (k : Int)) ∧ w.cell? ⟨g, 1, none⟩ = some (.int .u64 (e : Int)) ∧ w.cell? ⟨g, 2, none⟩ = some (.string b) ∧ w.frozen? ⟨g, 0, none⟩ = false ∧ w.frozen? ⟨g, 1, none⟩ = false ∧ w.frozen? ⟨g, 2, none⟩ = false
theorem Frz.below {w w' : World} {B g : Nat} {k e : Nat} {b : ByteArray} (h : Frz w g k e b) (hb : Below B w w') (hg : g < B) : Frz w' g k e b := by
  obtain ⟨h0, h1, h2, f0, f1, f2⟩ := h
  exact ⟨(hb.cell (p := ⟨g, 0, none⟩) hg).trans h0, (hb.cell (p := ⟨g, 1, none⟩) hg).trans h1, (hb.cell (p := ⟨g, 2, none⟩) hg).trans h2, (hb.frozen (p := ⟨g, 0, none⟩) hg).trans f0, (hb.frozen (p := ⟨g, 1, none⟩) hg).trans f1, (hb.frozen (p := ⟨g, 2, none⟩) hg).trans f2⟩
theorem Frz.new (w : World) (k e : Nat) (b : ByteArray) : Frz (w.alloc (.cells #[.int .i64 (k : Int), .int .u64 (e : Int), .string b] 51)) w.heap.size k e b := by
  refine ⟨cell_new w _ 51 0, cell_new w _ 51 1, cell_new w _ 51 2, ?_, ?_, ?_⟩ <;> simp
theorem read_short (s : ByteArray) (hs : s.size < 20) (w : World) :
    Calls Try.prog 46 #[.string s] w fun r w' => r = .returned (rdV 0 0 ⟨#[]⟩ ⟨#[]⟩ 3) ∧ Below w.heap.size w w' := by
  go_enter Try.func46, Try.ntmps46
  go_wp2
  exact bodyPost_ret (v := rdV 0 0 ⟨#[]⟩ ⟨#[]⟩ 3) (by simp [results, Try.results46, go_sem, rdV]) rfl ⟨rfl, (Below.refl _ _).alloc (Nat.le_refl _) _⟩
theorem read_form (s : ByteArray) (hs : 20 ≤ s.size) (hp : preS s = false) (w : World) :
    Calls Try.prog 46 #[.string s] w fun r w' => r = .returned (rdV 0 0 ⟨#[]⟩ ⟨#[]⟩ 4) ∧ Below w.heap.size w w' := by
  have h20 : ¬ s.size < 20 := by omega
  have k1 := fun w => Try.strings_HasPrefix s ⟨#[79, 70, 1]⟩ w
  rw [show Lib.hasPrefix s.data.toList (⟨#[79, 70, 1]⟩ : ByteArray).data.toList = preS s from rfl, hp] at k1
  have K1 := Lib.hid k1
  clear k1 hp
  go_enter Try.func46, Try.ntmps46
  go_wp2_with fail
  refine (K1.out _).mono ?_
  rintro r w1 ⟨rfl, h⟩
  subst h
  go_wp2
  exact bodyPost_ret (v := rdV 0 0 ⟨#[]⟩ ⟨#[]⟩ 4) (by simp [results, Try.results46, go_sem, rdV]) rfl ⟨rfl, (Below.refl _ _).alloc (Nat.le_refl _) _⟩

/-- The prefix stands. -/
theorem pre_call (s : ByteArray) (hp : preS s = true) (w : World) : Calls Try.prog 59 #[.string s, .string ⟨#[79, 70, 1]⟩] w fun e w' => e = .returned (.bool true) ∧ w = w' := by
  have k1 := Try.strings_HasPrefix s ⟨#[79, 70, 1]⟩ w
  rw [show Lib.hasPrefix s.data.toList (⟨#[79, 70, 1]⟩ : ByteArray).data.toList = preS s from rfl, hp] at k1
  exact k1.mono fun e w' h => ⟨h.1, h.2.symm⟩
theorem kind_at (s : ByteArray) (h : 3 < s.size) : kindS s = s[3].toNat := by
  unfold kindS
  have h' : 3 < s.data.toList.length := by simpa using h
  rw [List.getD, List.getElem?_eq_getElem h']
  rfl

theorem read_kind (s : ByteArray) (hs : 20 ≤ s.size) (hp : preS s = true) (hk : kindS s = 0) (w : World) :
    Calls Try.prog 46 #[.string s] w fun r w' => r = .returned (rdV 0 0 ⟨#[]⟩ ⟨#[]⟩ 10) ∧ Below w.heap.size w w' := by
  have h20 : ¬ s.size < 20 := by omega
  have h3 : 3 < s.size := by omega
  have hz : ((s[3].toNat : Int) == 0) = true := by rw [← kind_at s h3, hk]; rfl
  have K1 := Lib.hid (pre_call s hp)
  clear hk hp
  go_enter Try.func46, Try.ntmps46
  go_wp2_with fail
  refine (K1.out _).mono ?_
  rintro r w1 ⟨rfl, rfl⟩
  go_wp2
  exact bodyPost_ret (v := rdV 0 0 ⟨#[]⟩ ⟨#[]⟩ 10) (by simp [results, Try.results46, go_sem, rdV]) rfl ⟨rfl, (Below.refl _ _).alloc (Nat.le_refl _) _⟩

theorem num_call (s : ByteArray) (hs : 20 ≤ s.size) (n : Nat) (hn : lenN s = n) (w : World) : Calls Try.prog 60 #[.string (s.extract 12 16)] w fun e w' => e = .returned (.int .u64 (n : Int)) ∧ w = w' := by
  subst hn
  exact number_any (s.extract 12 16) (by rw [ByteArray.size_extract]; omega) (by rw [ByteArray.size_extract]; omega) w
theorem ep_call (s : ByteArray) (hs : 20 ≤ s.size) (n : Nat) (hn : epS s = n) (w : World) : Calls Try.prog 60 #[.string (s.extract 4 12)] w fun e w' => e = .returned (.int .u64 (n : Int)) ∧ w = w' := by
  subst hn
  exact number_any (s.extract 4 12) (by rw [ByteArray.size_extract]; omega) (by rw [ByteArray.size_extract]; omega) w

theorem read_long (s : ByteArray) (hs : 20 ≤ s.size) (hp : preS s = true) (hk : kindS s ≠ 0) (hn : 8192 < lenN s) (w : World) :
    Calls Try.prog 46 #[.string s] w fun r w' => r = .returned (rdV 0 0 ⟨#[]⟩ ⟨#[]⟩ 5) ∧ Below w.heap.size w w' := by
  have h20 : ¬ s.size < 20 := by omega
  have h3 : 3 < s.size := by omega
  have hz : ((s[3].toNat : Int) == 0) = false := by rw [← kind_at s h3, beq_eq_false_iff_ne]; omega
  have K1 := Lib.hid (pre_call s hp)
  have K2 := Lib.hid (num_call s hs _ rfl)
  generalize lenN s = n at *
  clear hk hp
  go_enter Try.func46, Try.ntmps46
  go_wp2_with fail
  refine (K1.out _).mono ?_
  rintro r w1 ⟨rfl, rfl⟩
  go_wp2_with fail
  refine (K2.out _).mono ?_
  rintro r w1 ⟨rfl, rfl⟩
  go_wp2
  exact bodyPost_ret (v := rdV 0 0 ⟨#[]⟩ ⟨#[]⟩ 5) (by simp [results, Try.results46, go_sem, rdV]) rfl ⟨rfl, (Below.refl _ _).alloc (Nat.le_refl _) _⟩

theorem read_cut (s : ByteArray) (hs : 20 ≤ s.size) (hp : preS s = true) (hk : kindS s ≠ 0) (hn : lenN s ≤ 8192) (hc : s.size < lenN s + 20) (w : World) :
    Calls Try.prog 46 #[.string s] w fun r w' => r = .returned (rdV 0 0 ⟨#[]⟩ ⟨#[]⟩ 3) ∧ Below w.heap.size w w' := by
  have h20 : ¬ s.size < 20 := by omega
  have h3 : 3 < s.size := by omega
  have hz : ((s[3].toNat : Int) == 0) = false := by rw [← kind_at s h3, beq_eq_false_iff_ne]; omega
  have K1 := Lib.hid (pre_call s hp)
  have K2 := Lib.hid (num_call s hs _ rfl)
  generalize lenN s = n at *
  have K3 := Lib.hid (fun w => size_any n (by omega) w)
  clear hk hp
  go_enter Try.func46, Try.ntmps46
  go_wp2_with fail
  refine (K1.out _).mono ?_
  rintro r w1 ⟨rfl, rfl⟩
  go_wp2_with fail
  refine (K2.out _).mono ?_
  rintro r w1 ⟨rfl, rfl⟩
  go_wp2_with fail
  refine (K3.out _).mono ?_
  rintro r w1 ⟨rfl, rfl⟩
  go_wp2
  exact bodyPost_ret (v := rdV 0 0 ⟨#[]⟩ ⟨#[]⟩ 3) (by simp [results, Try.results46, go_sem, rdV]) rfl ⟨rfl, (Below.refl _ _).alloc (Nat.le_refl _) _⟩

theorem read_sum (s : ByteArray) (hs : 20 ≤ s.size) (hp : preS s = true) (hk : kindS s ≠ 0) (hn : lenN s ≤ 8192) (hc : lenN s + 20 ≤ s.size) (hm : ¬ okS s) (hmax : s.size ≤ 1000000000) (w : World) :
    Calls Try.prog 46 #[.string s] w fun r w' => r = .returned (rdV 0 0 ⟨#[]⟩ ⟨#[]⟩ 9) ∧ Below w.heap.size w w' := by
  have h20 : ¬ s.size < 20 := by omega
  have h3 : 3 < s.size := by omega
  have hz : ((s[3].toNat : Int) == 0) = false := by rw [← kind_at s h3, beq_eq_false_iff_ne]; omega
  have hps : (s.extract 0 (lenN s + 20)).size = lenN s + 16 + 4 := by rw [ByteArray.size_extract]; omega
  have K1 := Lib.hid (pre_call s hp)
  have K2 := Lib.hid (num_call s hs _ rfl)
  have k4 := fun w => check_bad (s.extract 0 (lenN s + 20)) w (lenN s + 16) hps (by omega) (fun h => hm ((ok_iff s hc hp).2 h))
  clear hm hps
  generalize lenN s = n at *
  have K3 := Lib.hid (fun w => size_any n (by omega) w)
  have hc' : ¬ s.size < n + 20 := by omega
  generalize hq : n + 20 = q at *
  have HQ := Lib.hid hq
  have K4 := Lib.hid k4
  clear hk hp k4 hq
  go_enter Try.func46, Try.ntmps46
  go_wp2_with fail
  refine (K1.out _).mono ?_
  rintro r w1 ⟨rfl, rfl⟩
  go_wp2_with fail
  refine (K2.out _).mono ?_
  rintro r w1 ⟨rfl, rfl⟩
  go_wp2_with fail
  refine (K3.out _).mono ?_
  rintro r w1 ⟨rfl, rfl⟩
  go_wp2_with fail
  refine (K4.out _).mono ?_
  rintro r w2 ⟨rfl, hb2⟩
  obtain ⟨w0, hw0⟩ : ∃ w0, w0 = w.alloc (.cells #[.int .i64 0, .int .u64 0, .string ⟨#[]⟩] 51) := ⟨_, rfl⟩
  rw [← hw0] at hb2
  have hB : Below w.heap.size w w0 := by rw [hw0]; exact (Below.refl _ _).alloc (Nat.le_refl _) _
  have hlt : w.heap.size < w0.heap.size := by rw [hw0]; simp
  have hF : Frz w0 w.heap.size 0 0 ⟨#[]⟩ := by rw [hw0]; exact Frz.new _ _ _ _
  have HB2 := Lib.hid (hB.trans (hb2.mono hB.size))
  obtain ⟨c0, c1, c2, f0, f1, f2⟩ := hF.below hb2 hlt
  clear hB hF hlt hb2 hw0
  go_wp2
  exact bodyPost_ret (v := rdV 0 0 ⟨#[]⟩ ⟨#[]⟩ 9) (by simp [results, Try.results46, go_sem, rdV, *]) rfl ⟨rfl, ((HB2.out.setCell (Nat.le_refl _) _).setCell (Nat.le_refl _) _).setCell (Nat.le_refl _) _⟩
end Go.Proofs.Ytlochpnifjmefaa
