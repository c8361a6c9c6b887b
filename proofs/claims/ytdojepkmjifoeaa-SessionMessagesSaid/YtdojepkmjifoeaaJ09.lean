/- frame.number, frame.read; awake.; frame.read of a frame that stands.; frame.Next, frame.Parse, out of what frame.read answers. -/
import Derived.Test.YtdojepkmjifoeaaJ08
set_option linter.unusedVariables false
set_option linter.unusedSimpArgs false
namespace Go.Proofs.Ytdojepkmjifoeaa
open Go.RowKit

theorem awake2b_any (w : World) : Calls Try.prog 59 #[] w fun e w' => e = .returned (.bool true) ∧ Below w.heap.size w w' := by
  have hB := Below.refl w.heap.size w
  go_enter Try.func59, Try.ntmps59
  go_wp2_with (first
    | (go_at_call 79; go_must (refine (awake2_any _).mono ?_); rintro e w1 ⟨rfl, hb1⟩; replace hB := hB.trans (hb1.mono hB.size)))
  go_ret
  exact ⟨rfl, hB⟩
theorem awake8_any (w : World) : Calls Try.prog 38 #[] w fun e w' => e = .returned (.bool true) ∧ Below w.heap.size w w' := by
  have k1 := fun w => bytes_ok 1 0 ⟨#[]⟩ (by omega) (by omega) (by omega) (by decide) w
  have hL : (frameL 1 0 (⟨#[]⟩ : ByteArray).data.toList).length = 20 := by rw [frameL_length]; rfl
  generalize frameL 1 0 (⟨#[]⟩ : ByteArray).data.toList = M at *
  have hS : (str M).size = 20 := by rw [size_str, hL]
  have K1 := Lib.hid k1
  have K2 := Lib.hid (fun w => size_any 0 (by omega) w)
  clear k1 hL
  have hB := Below.refl w.heap.size w
  go_enter Try.func38, Try.ntmps38
  go_wp2_with (first
    | (go_at_call 21; go_must (refine (K1.out _).mono ?_); rintro e w1 ⟨rfl, hb1⟩; replace hB := hB.trans (hb1.mono hB.size))
    | (go_at_call 59; go_must (refine (awake2b_any _).mono ?_); rintro e w2 ⟨rfl, hb2⟩; replace hB := hB.trans (hb2.mono hB.size))
    | (go_at_call 60; go_must (refine (K2.out _).mono ?_); rintro e w3 ⟨rfl, rfl⟩))
  go_ret
  exact ⟨rfl, hB⟩

theorem number_any (s : ByteArray) (h1 : 1 ≤ s.size) (h2 : s.size ≤ 8) (w : World) : Calls Try.prog 69 #[.string s] w fun e w' => e = .returned (.int .u64 (gt s.data.toList)) ∧ w = w' := by
  have K1 := Lib.hid (fun w => get_ok s h1 h2 w)
  go_enter Try.func69, Try.ntmps69
  go_wp2_with (first
    | (go_at_call 84; go_must (refine (K1.out _).mono ?_); rintro e w1 ⟨rfl, rfl⟩))
  go_ret
  exact ⟨rfl, rfl⟩

/-- What reading answers. -/
def rdV (k e : Nat) (b r : ByteArray) (c : Nat) : Value := .tuple #[.agg #[.int .i64 (k : Int), .int .u64 (e : Int), .string b], .string r, .int .i64 (c : Int)]

/-- A block that holds a frame, and is the call's own. -/
def Frz (w : World) (g : Nat) (k e : Nat) (b : ByteArray) : Prop :=
  w.cell? ⟨g, 0, none⟩ = some (.int .i64 (k : Int)) ∧ w.cell? ⟨g, 1, none⟩ = some (.int .u64 (e : Int)) ∧ w.cell? ⟨g, 2, none⟩ = some (.string b) ∧ w.frozen? ⟨g, 0, none⟩ = false ∧ w.frozen? ⟨g, 1, none⟩ = false ∧ w.frozen? ⟨g, 2, none⟩ = false
theorem Frz.below {w w' : World} {B g : Nat} {k e : Nat} {b : ByteArray} (h : Frz w g k e b) (hb : Below B w w') (hg : g < B) : Frz w' g k e b := by
  obtain ⟨h0, h1, h2, f0, f1, f2⟩ := h
  exact ⟨(hb.cell (p := ⟨g, 0, none⟩) hg).trans h0, (hb.cell (p := ⟨g, 1, none⟩) hg).trans h1, (hb.cell (p := ⟨g, 2, none⟩) hg).trans h2, (hb.frozen (p := ⟨g, 0, none⟩) hg).trans f0, (hb.frozen (p := ⟨g, 1, none⟩) hg).trans f1, (hb.frozen (p := ⟨g, 2, none⟩) hg).trans f2⟩
theorem Frz.new (w : World) (k e : Nat) (b : ByteArray) : Frz (w.alloc (.cells #[.int .i64 (k : Int), .int .u64 (e : Int), .string b] 57)) w.heap.size k e b := by
  refine ⟨cell_new w _ 57 0, cell_new w _ 57 1, cell_new w _ 57 2, ?_, ?_, ?_⟩ <;> simp
theorem read_short (s : ByteArray) (hs : s.size < 20) (w : World) :
    Calls Try.prog 49 #[.string s] w fun r w' => r = .returned (rdV 0 0 ⟨#[]⟩ ⟨#[]⟩ 3) ∧ Below w.heap.size w w' := by
  go_enter Try.func49, Try.ntmps49
  go_wp2
  exact bodyPost_ret (v := rdV 0 0 ⟨#[]⟩ ⟨#[]⟩ 3) (by simp [results, Try.results49, go_sem, rdV]) rfl ⟨rfl, (Below.refl _ _).alloc (Nat.le_refl _) _⟩
theorem read_form (s : ByteArray) (hs : 20 ≤ s.size) (hp : preS s = false) (w : World) :
    Calls Try.prog 49 #[.string s] w fun r w' => r = .returned (rdV 0 0 ⟨#[]⟩ ⟨#[]⟩ 4) ∧ Below w.heap.size w w' := by
  have h20 : ¬ s.size < 20 := by omega
  have k1 := fun w => Try.strings_HasPrefix s ⟨#[79, 70, 1]⟩ w
  rw [show Lib.hasPrefix s.data.toList (⟨#[79, 70, 1]⟩ : ByteArray).data.toList = preS s from rfl, hp] at k1
  have K1 := Lib.hid k1
  clear k1 hp
  go_enter Try.func49, Try.ntmps49
  go_wp2_with fail
  refine (K1.out _).mono ?_
  rintro r w1 ⟨rfl, h⟩
  subst h
  go_wp2
  exact bodyPost_ret (v := rdV 0 0 ⟨#[]⟩ ⟨#[]⟩ 4) (by simp [results, Try.results49, go_sem, rdV]) rfl ⟨rfl, (Below.refl _ _).alloc (Nat.le_refl _) _⟩

/-- The prefix stands. -/
theorem pre_call (s : ByteArray) (hp : preS s = true) (w : World) : Calls Try.prog 68 #[.string s, .string ⟨#[79, 70, 1]⟩] w fun e w' => e = .returned (.bool true) ∧ w = w' := by
  have k1 := Try.strings_HasPrefix s ⟨#[79, 70, 1]⟩ w
  rw [show Lib.hasPrefix s.data.toList (⟨#[79, 70, 1]⟩ : ByteArray).data.toList = preS s from rfl, hp] at k1
  exact k1.mono fun e w' h => ⟨h.1, h.2.symm⟩
theorem kind_at (s : ByteArray) (h : 3 < s.size) : kindS s = s[3].toNat := by
  unfold kindS
  have h' : 3 < s.data.toList.length := by simpa using h
  rw [List.getD, List.getElem?_eq_getElem h']
  rfl

theorem read_kind (s : ByteArray) (hs : 20 ≤ s.size) (hp : preS s = true) (hk : kindS s = 0) (w : World) :
    Calls Try.prog 49 #[.string s] w fun r w' => r = .returned (rdV 0 0 ⟨#[]⟩ ⟨#[]⟩ 10) ∧ Below w.heap.size w w' := by
  have h20 : ¬ s.size < 20 := by omega
  have h3 : 3 < s.size := by omega
  have hz : ((s[3].toNat : Int) == 0) = true := by rw [← kind_at s h3, hk]; rfl
  have K1 := Lib.hid (pre_call s hp)
  clear hk hp
  go_enter Try.func49, Try.ntmps49
  go_wp2_with fail
  refine (K1.out _).mono ?_
  rintro r w1 ⟨rfl, rfl⟩
  go_wp2
  exact bodyPost_ret (v := rdV 0 0 ⟨#[]⟩ ⟨#[]⟩ 10) (by simp [results, Try.results49, go_sem, rdV]) rfl ⟨rfl, (Below.refl _ _).alloc (Nat.le_refl _) _⟩

theorem num_call (s : ByteArray) (hs : 20 ≤ s.size) (n : Nat) (hn : lenN s = n) (w : World) : Calls Try.prog 69 #[.string (s.extract 12 16)] w fun e w' => e = .returned (.int .u64 (n : Int)) ∧ w = w' := by
  subst hn
  exact number_any (s.extract 12 16) (by rw [ByteArray.size_extract]; omega) (by rw [ByteArray.size_extract]; omega) w
theorem ep_call (s : ByteArray) (hs : 20 ≤ s.size) (n : Nat) (hn : epS s = n) (w : World) : Calls Try.prog 69 #[.string (s.extract 4 12)] w fun e w' => e = .returned (.int .u64 (n : Int)) ∧ w = w' := by
  subst hn
  exact number_any (s.extract 4 12) (by rw [ByteArray.size_extract]; omega) (by rw [ByteArray.size_extract]; omega) w

theorem read_long (s : ByteArray) (hs : 20 ≤ s.size) (hp : preS s = true) (hk : kindS s ≠ 0) (hn : 8192 < lenN s) (w : World) :
    Calls Try.prog 49 #[.string s] w fun r w' => r = .returned (rdV 0 0 ⟨#[]⟩ ⟨#[]⟩ 5) ∧ Below w.heap.size w w' := by
  have h20 : ¬ s.size < 20 := by omega
  have h3 : 3 < s.size := by omega
  have hz : ((s[3].toNat : Int) == 0) = false := by rw [← kind_at s h3, beq_eq_false_iff_ne]; omega
  have K1 := Lib.hid (pre_call s hp)
  have K2 := Lib.hid (num_call s hs _ rfl)
  generalize lenN s = n at *
  clear hk hp
  go_enter Try.func49, Try.ntmps49
  go_wp2_with fail
  refine (K1.out _).mono ?_
  rintro r w1 ⟨rfl, rfl⟩
  go_wp2_with fail
  refine (K2.out _).mono ?_
  rintro r w1 ⟨rfl, rfl⟩
  go_wp2
  exact bodyPost_ret (v := rdV 0 0 ⟨#[]⟩ ⟨#[]⟩ 5) (by simp [results, Try.results49, go_sem, rdV]) rfl ⟨rfl, (Below.refl _ _).alloc (Nat.le_refl _) _⟩

theorem read_cut (s : ByteArray) (hs : 20 ≤ s.size) (hp : preS s = true) (hk : kindS s ≠ 0) (hn : lenN s ≤ 8192) (hc : s.size < lenN s + 20) (w : World) :
    Calls Try.prog 49 #[.string s] w fun r w' => r = .returned (rdV 0 0 ⟨#[]⟩ ⟨#[]⟩ 3) ∧ Below w.heap.size w w' := by
  have h20 : ¬ s.size < 20 := by omega
  have h3 : 3 < s.size := by omega
  have hz : ((s[3].toNat : Int) == 0) = false := by rw [← kind_at s h3, beq_eq_false_iff_ne]; omega
  have K1 := Lib.hid (pre_call s hp)
  have K2 := Lib.hid (num_call s hs _ rfl)
  generalize lenN s = n at *
  have K3 := Lib.hid (fun w => size_any n (by omega) w)
  clear hk hp
  go_enter Try.func49, Try.ntmps49
  go_wp2_with fail
  refine (K1.out _).mono ?_
  rintro r w1 ⟨rfl, rfl⟩
  go_wp2_with fail
  refine (K2.out _).mono ?_
  rintro r w1 ⟨rfl, rfl⟩
  go_wp2_with fail
  refine (K3.out _).mono ?_
  rintro r w1 ⟨rfl, rfl⟩
  go_wp2
  exact bodyPost_ret (v := rdV 0 0 ⟨#[]⟩ ⟨#[]⟩ 3) (by simp [results, Try.results49, go_sem, rdV]) rfl ⟨rfl, (Below.refl _ _).alloc (Nat.le_refl _) _⟩

theorem read_sum (s : ByteArray) (hs : 20 ≤ s.size) (hp : preS s = true) (hk : kindS s ≠ 0) (hn : lenN s ≤ 8192) (hc : lenN s + 20 ≤ s.size) (hm : ¬ okS s) (hmax : s.size ≤ 1000000000) (w : World) :
    Calls Try.prog 49 #[.string s] w fun r w' => r = .returned (rdV 0 0 ⟨#[]⟩ ⟨#[]⟩ 9) ∧ Below w.heap.size w w' := by
  have h20 : ¬ s.size < 20 := by omega
  have h3 : 3 < s.size := by omega
  have hz : ((s[3].toNat : Int) == 0) = false := by rw [← kind_at s h3, beq_eq_false_iff_ne]; omega
  have hps : (s.extract 0 (lenN s + 20)).size = lenN s + 16 + 4 := by rw [ByteArray.size_extract]; omega
  have K1 := Lib.hid (pre_call s hp)
  have K2 := Lib.hid (num_call s hs _ rfl)
  have k4 := fun w => check_bad (s.extract 0 (lenN s + 20)) w (lenN s + 16) hps (by omega) (fun h => hm ((ok_iff s hc hp).2 h))
  clear hm hps
  generalize lenN s = n at *
  have K3 := Lib.hid (fun w => size_any n (by omega) w)
  have hc' : ¬ s.size < n + 20 := by omega
  generalize hq : n + 20 = q at *
  have HQ := Lib.hid hq
  have K4 := Lib.hid k4
  clear hk hp k4 hq
  go_enter Try.func49, Try.ntmps49
  go_wp2_with fail
  refine (K1.out _).mono ?_
  rintro r w1 ⟨rfl, rfl⟩
  go_wp2_with fail
  refine (K2.out _).mono ?_
  rintro r w1 ⟨rfl, rfl⟩
  go_wp2_with fail
  refine (K3.out _).mono ?_
  rintro r w1 ⟨rfl, rfl⟩
  go_wp2_with fail
  refine (K4.out _).mono ?_
  rintro r w2 ⟨rfl, hb2⟩
  obtain ⟨w0, hw0⟩ : ∃ w0, w0 = w.alloc (.cells #[.int .i64 0, .int .u64 0, .string ⟨#[]⟩] 57) := ⟨_, rfl⟩
  rw [← hw0] at hb2
  have hB : Below w.heap.size w w0 := by rw [hw0]; exact (Below.refl _ _).alloc (Nat.le_refl _) _
  have hlt : w.heap.size < w0.heap.size := by rw [hw0]; simp
  have hF : Frz w0 w.heap.size 0 0 ⟨#[]⟩ := by rw [hw0]; exact Frz.new _ _ _ _
  have HB2 := Lib.hid (hB.trans (hb2.mono hB.size))
  obtain ⟨c0, c1, c2, f0, f1, f2⟩ := hF.below hb2 hlt
  clear hB hF hlt hb2 hw0
  go_wp2
  exact bodyPost_ret (v := rdV 0 0 ⟨#[]⟩ ⟨#[]⟩ 9) (by simp [results, Try.results49, go_sem, rdV, *]) rfl ⟨rfl, ((HB2.out.setCell (Nat.le_refl _) _).setCell (Nat.le_refl _) _).setCell (Nat.le_refl _) _⟩
end Go.Proofs.Ytdojepkmjifoeaa

namespace Go.Proofs.Ytdojepkmjifoeaa
open Go.RowKit

set_option maxRecDepth 100000 in
set_option maxHeartbeats 1000000 in
theorem read_fine (s : ByteArray) (hs : 20 ≤ s.size) (hp : preS s = true) (hk : kindS s ≠ 0) (hn : lenN s ≤ 8192) (hc : lenN s + 20 ≤ s.size) (hm : okS s) (hmax : s.size ≤ 1000000000) (w : World) :
    Calls Try.prog 49 #[.string s] w fun r w' => r = .returned (rdV (kindS s) (epS s) (bodyS s) (restS s) 0) ∧ Below w.heap.size w w' := by
  have h20 : ¬ s.size < 20 := by omega
  have h3 : 3 < s.size := by omega
  have hz : ((s[3].toNat : Int) == 0) = false := by rw [← kind_at s h3, beq_eq_false_iff_ne]; omega
  have hps : (s.extract 0 (lenN s + 20)).size = lenN s + 16 + 4 := by rw [ByteArray.size_extract]; omega
  have K1 := Lib.hid (pre_call s hp)
  have K2 := Lib.hid (num_call s hs _ rfl)
  have K5 := Lib.hid (ep_call s hs _ rfl)
  have k4 := fun w => check_ok (s.extract 0 (lenN s + 20)) w (lenN s + 16) hps (by omega) ((ok_iff s hc hp).1 hm)
  have hbd := text_body s hc
  have hts : ((s.extract 0 (lenN s + 20)).extract 0 (lenN s + 16)).size = lenN s + 16 := by rw [ByteArray.size_extract, ByteArray.size_extract]; omega
  have hrest : restS s = s.extract (lenN s + 20) s.size := rfl
  rw [hrest]
  have hkk := kind_at s h3
  clear hm hps hrest hk
  generalize lenN s = n at *
  generalize (s.extract 0 (n + 20)).extract 0 (n + 16) = t at *
  have K3 := Lib.hid (fun w => size_any n (by omega) w)
  have hc' : ¬ s.size < n + 20 := by omega
  have ht16 : 16 ≤ t.size := by omega
  obtain ⟨k, hkd⟩ : ∃ k, kindS s = k := ⟨_, rfl⟩
  rw [hkd] at hkk ⊢
  rw [← hbd]
  have HKK := Lib.hid hkk
  clear hkd
  clear hbd hkk hts
  generalize hq : n + 20 = q at *
  have HQ := Lib.hid hq
  have K4 := Lib.hid k4
  clear hp k4 hq
  go_enter Try.func49, Try.ntmps49
  go_wp2_with fail
  refine (K1.out _).mono ?_
  rintro r w1 ⟨rfl, rfl⟩
  go_wp2_with fail
  refine (K2.out _).mono ?_
  rintro r w1 ⟨rfl, rfl⟩
  go_wp2_with fail
  refine (K3.out _).mono ?_
  rintro r w1 ⟨rfl, rfl⟩
  go_wp2_with fail
  refine (K4.out _).mono ?_
  rintro r w2 ⟨rfl, hb2⟩
  go_wp2_with fail
  have i12 : (12 : Int) ≤ (s.size : Int) := by omega
  have i16 : (16 : Int) ≤ (t.size : Int) := by omega
  have i3 : (3 : Int) < (s.size : Int) := by omega
  have iq : (q : Int) ≤ (s.size : Int) := by omega
  have iq0 : (0 : Int) ≤ (q : Int) := by omega
  have hwr : IntKind.i64.wrap (s[3].toNat : Int) = (k : Int) := by rw [← HKK.out]; exact IntWalk.i64_in _ (by have := s[3].toNat_lt; have := HKK.out; omega)
  obtain ⟨w0, hw0⟩ : ∃ w0, w0 = w.alloc (.cells #[.int .i64 0, .int .u64 0, .string ⟨#[]⟩] 57) := ⟨_, rfl⟩
  rw [← hw0] at hb2
  have hB : Below w.heap.size w w0 := by rw [hw0]; exact (Below.refl _ _).alloc (Nat.le_refl _) _
  have hlt : w.heap.size < w0.heap.size := by rw [hw0]; simp
  have hF : Frz w0 w.heap.size 0 0 ⟨#[]⟩ := by rw [hw0]; exact Frz.new _ _ _ _
  have HB2 := Lib.hid (hB.trans (hb2.mono hB.size))
  have HF2 := Lib.hid (hF.below hb2 hlt)
  have HL2 := Lib.hid (Nat.lt_of_lt_of_le hlt hb2.size)
  clear hs h20 hn hc hmax hc' ht16 hB hlt hF hb2 hw0
  go_region_held3 (fun w' => w2.heap.size ≤ w'.heap.size) (first | (exact Nat.le_refl _) | go_keep | (simp; omega)) (first | (go_at_call 69; refine (K5.out _).mono ?_; rintro r w5 ⟨rfl, rfl⟩))
  all_goals
    simp only [Exit.then]
    apply_assumption
    have hb3 : Below w2.heap.size w2 (w2.alloc (.cells #[.int .i64 k, .int .u64 (epS s), .string (t.extract 16 t.size)] 57)) := (Below.refl _ _).alloc (Nat.le_refl _) _
    have hF3 : Frz (w2.alloc (.cells #[.int .i64 k, .int .u64 (epS s), .string (t.extract 16 t.size)] 57)) w2.heap.size k (epS s) (t.extract 16 t.size) := Frz.new _ _ _ _
    have HB3 := Lib.hid (HB2.out.trans (hb3.mono HB2.out.size))
    obtain ⟨c0, c1, c2, f0, f1, f2⟩ := HF2.out.below hb3 HL2.out
    obtain ⟨d0, d1, d2, e0, e1, e2⟩ := hF3
    clear hb3
    generalize w2.alloc (.cells #[.int .i64 (k : Int), .int .u64 (epS s : Int), .string (t.extract 16 t.size)] 57) = wa at *
    go_wp2_with fail
    go_region
    all_goals
      go_wp2
      refine bodyPost_ret (v := rdV k (epS s) (t.extract 16 t.size) (s.extract q s.size) 0) (by simp [results, Try.results49, go_sem, rdV, *]) rfl ⟨rfl, ?_⟩
      first | exact (((HB3.out.setCell (Nat.le_refl _) _).setCell (Nat.le_refl _) _).setCell (Nat.le_refl _) _).drew.drew | exact (((HB3.out.setCell (Nat.le_refl _) _).setCell (Nat.le_refl _) _).setCell (Nat.le_refl _) _).drew | exact (((HB3.out.setCell (Nat.le_refl _) _).setCell (Nat.le_refl _) _).setCell (Nat.le_refl _) _)

/-- What reading a text answers. -/
theorem read_any (s : ByteArray) (hmax : s.size ≤ 1000000000) (w : World) :
    Calls Try.prog 49 #[.string s] w fun r w' => r = .returned (rdV (rK s) (rE s) (rB s) (rR s) (codeS s)) ∧ Below w.heap.size w w' := by
  by_cases h1 : s.size < 20
  · have hc : codeS s = 3 := by unfold codeS; rw [if_pos h1]
    obtain ⟨a, b, c, d, _⟩ := r_bad (s := s) (by omega)
    rw [a, b, c, d, hc]; exact read_short s h1 w
  by_cases h2 : preS s = false
  · have hc : codeS s = 4 := by unfold codeS; rw [if_neg h1, if_pos h2]
    obtain ⟨a, b, c, d, _⟩ := r_bad (s := s) (by omega)
    rw [a, b, c, d, hc]; exact read_form s (by omega) h2 w
  by_cases h3 : kindS s = 0
  · have hc : codeS s = 10 := by unfold codeS; rw [if_neg h1, if_neg h2, if_pos h3]
    obtain ⟨a, b, c, d, _⟩ := r_bad (s := s) (by omega)
    rw [a, b, c, d, hc]; exact read_kind s (by omega) (by simpa using h2) h3 w
  by_cases h4 : 8192 < lenN s
  · have hc : codeS s = 5 := by unfold codeS; rw [if_neg h1, if_neg h2, if_neg h3, if_pos h4]
    obtain ⟨a, b, c, d, _⟩ := r_bad (s := s) (by omega)
    rw [a, b, c, d, hc]; exact read_long s (by omega) (by simpa using h2) h3 h4 w
  by_cases h5 : s.size < lenN s + 20
  · have hc : codeS s = 3 := by unfold codeS; rw [if_neg h1, if_neg h2, if_neg h3, if_neg h4, if_pos h5]
    obtain ⟨a, b, c, d, _⟩ := r_bad (s := s) (by omega)
    rw [a, b, c, d, hc]; exact read_cut s (by omega) (by simpa using h2) h3 (by omega) h5 w
  by_cases h6 : okS s
  · have hc : codeS s = 0 := by unfold codeS; rw [if_neg h1, if_neg h2, if_neg h3, if_neg h4, if_neg h5, if_pos h6]
    obtain ⟨a, b, c, d, _⟩ := r_ok hc
    rw [a, b, c, d, hc]; exact read_fine s (by omega) (by simpa using h2) h3 (by omega) (by omega) h6 hmax w
  · have hc : codeS s = 9 := by unfold codeS; rw [if_neg h1, if_neg h2, if_neg h3, if_neg h4, if_neg h5, if_neg h6]
    obtain ⟨a, b, c, d, _⟩ := r_bad (s := s) (by omega)
    rw [a, b, c, d, hc]; exact read_sum s (by omega) (by simpa using h2) h3 (by omega) (by omega) h6 hmax w
end Go.Proofs.Ytdojepkmjifoeaa

namespace Go.Proofs.Ytdojepkmjifoeaa
open Go.RowKit

/-- What Parse answers. -/
def paV (k e : Nat) (b : ByteArray) (c : Nat) : Value := .tuple #[.agg #[.int .i64 (k : Int), .int .u64 (e : Int), .string b], .int .i64 (c : Int)]

set_option maxHeartbeats 1000000 in
theorem parse_bad (s : ByteArray) (c : Nat) (hc0 : c ≠ 0) (_hc : c < 1000)
    (h : ∀ w, Calls Try.prog 49 #[.string s] w fun x w' => x = .returned (rdV 0 0 ⟨#[]⟩ ⟨#[]⟩ c) ∧ Below w.heap.size w w') (w : World) :
    Calls Try.prog 24 #[.string s] w fun x w' => x = .returned (paV 0 0 ⟨#[]⟩ c) ∧ Below w.heap.size w w' := by
  have hq : ((c : Int) != 0) = true := by simp; omega
  have K1 := Lib.hid h
  clear h hc0
  go_enter Try.func24, Try.ntmps24
  go_wp2_with fail
  refine (K1.out _).mono ?_
  rintro x w2 ⟨rfl, hb2⟩
  obtain ⟨w0, hw0⟩ : ∃ w0, w0 = w.alloc (.cells #[.int .i64 0, .int .u64 0, .string ⟨#[]⟩] 57) := ⟨_, rfl⟩
  rw [← hw0] at hb2
  have hB : Below w.heap.size w w0 := by rw [hw0]; exact (Below.refl _ _).alloc (Nat.le_refl _) _
  have hlt : w.heap.size < w0.heap.size := by rw [hw0]; simp
  have hF : Frz w0 w.heap.size 0 0 ⟨#[]⟩ := by rw [hw0]; exact Frz.new _ _ _ _
  have HB2 := Lib.hid (hB.trans (hb2.mono hB.size))
  have HF2 := Lib.hid (hF.below hb2 hlt)
  have HL2 := Lib.hid (Nat.lt_of_lt_of_le hlt hb2.size)
  clear hB hlt hF hb2 hw0
  have hb3 : Below w2.heap.size w2 (w2.alloc (.cells #[.int .i64 0, .int .u64 0, .string ⟨#[]⟩] 57)) := (Below.refl _ _).alloc (Nat.le_refl _) _
  have HB3 := Lib.hid (HB2.out.trans (hb3.mono HB2.out.size))
  obtain ⟨c0, c1, c2, f0, f1, f2⟩ := HF2.out.below hb3 HL2.out
  clear hb3
  unfold rdV
  go_wp2
  exact bodyPost_ret (v := paV 0 0 ⟨#[]⟩ c) (by simp [results, Try.results24, go_sem, paV, *]) rfl ⟨rfl, ((HB3.out.setCell (Nat.le_refl _) _).setCell (Nat.le_refl _) _).setCell (Nat.le_refl _) _⟩

set_option maxHeartbeats 1000000 in
theorem parse_form (s : ByteArray) (k e : Nat) (b r : ByteArray) (hr : 1 ≤ r.size)
    (h : ∀ w, Calls Try.prog 49 #[.string s] w fun x w' => x = .returned (rdV k e b r 0) ∧ Below w.heap.size w w') (w : World) :
    Calls Try.prog 24 #[.string s] w fun x w' => x = .returned (paV 0 0 ⟨#[]⟩ 4) ∧ Below w.heap.size w w' := by
  have hq := empty_no r hr
  have hq2 : (!r.toList.isEmpty) = true := by rw [hq]; rfl
  have K1 := Lib.hid h
  clear h hr
  go_enter Try.func24, Try.ntmps24
  go_wp2_with fail
  refine (K1.out _).mono ?_
  rintro x w2 ⟨rfl, hb2⟩
  obtain ⟨w0, hw0⟩ : ∃ w0, w0 = w.alloc (.cells #[.int .i64 0, .int .u64 0, .string ⟨#[]⟩] 57) := ⟨_, rfl⟩
  rw [← hw0] at hb2
  have hB : Below w.heap.size w w0 := by rw [hw0]; exact (Below.refl _ _).alloc (Nat.le_refl _) _
  have hlt : w.heap.size < w0.heap.size := by rw [hw0]; simp
  have hF : Frz w0 w.heap.size 0 0 ⟨#[]⟩ := by rw [hw0]; exact Frz.new _ _ _ _
  have HB2 := Lib.hid (hB.trans (hb2.mono hB.size))
  have HF2 := Lib.hid (hF.below hb2 hlt)
  have HL2 := Lib.hid (Nat.lt_of_lt_of_le hlt hb2.size)
  clear hB hlt hF hb2 hw0
  have hb3 : Below w2.heap.size w2 (w2.alloc (.cells #[.int .i64 k, .int .u64 e, .string b] 57)) := (Below.refl _ _).alloc (Nat.le_refl _) _
  have HB3 := Lib.hid (HB2.out.trans (hb3.mono HB2.out.size))
  obtain ⟨c0, c1, c2, f0, f1, f2⟩ := HF2.out.below hb3 HL2.out
  clear hb3
  unfold rdV
  go_wp2
  exact bodyPost_ret (v := paV 0 0 ⟨#[]⟩ 4) (by simp [results, Try.results24, go_sem, paV, *]) rfl ⟨rfl, ((HB3.out.setCell (Nat.le_refl _) _).setCell (Nat.le_refl _) _).setCell (Nat.le_refl _) _⟩
set_option maxHeartbeats 1000000 in
theorem parse_fine (s : ByteArray) (k e : Nat) (b r : ByteArray) (hr : r.size = 0)
    (h : ∀ w, Calls Try.prog 49 #[.string s] w fun x w' => x = .returned (rdV k e b r 0) ∧ Below w.heap.size w w') (w : World) :
    Calls Try.prog 24 #[.string s] w fun x w' => x = .returned (paV k e b 0) ∧ Below w.heap.size w w' := by
  have hq := empty_yes r hr
  have hq2 : (!r.toList.isEmpty) = false := by rw [hq]; rfl
  have K1 := Lib.hid h
  clear h hr
  go_enter Try.func24, Try.ntmps24
  go_wp2_with fail
  refine (K1.out _).mono ?_
  rintro x w2 ⟨rfl, hb2⟩
  obtain ⟨w0, hw0⟩ : ∃ w0, w0 = w.alloc (.cells #[.int .i64 0, .int .u64 0, .string ⟨#[]⟩] 57) := ⟨_, rfl⟩
  rw [← hw0] at hb2
  have hB : Below w.heap.size w w0 := by rw [hw0]; exact (Below.refl _ _).alloc (Nat.le_refl _) _
  have hlt : w.heap.size < w0.heap.size := by rw [hw0]; simp
  have hF : Frz w0 w.heap.size 0 0 ⟨#[]⟩ := by rw [hw0]; exact Frz.new _ _ _ _
  have HB2 := Lib.hid (hB.trans (hb2.mono hB.size))
  have HF2 := Lib.hid (hF.below hb2 hlt)
  have HL2 := Lib.hid (Nat.lt_of_lt_of_le hlt hb2.size)
  clear hB hlt hF hb2 hw0
  have hb3 : Below w2.heap.size w2 (w2.alloc (.cells #[.int .i64 k, .int .u64 e, .string b] 57)) := (Below.refl _ _).alloc (Nat.le_refl _) _
  have HB3 := Lib.hid (HB2.out.trans (hb3.mono HB2.out.size))
  obtain ⟨c0, c1, c2, f0, f1, f2⟩ := HF2.out.below hb3 HL2.out
  obtain ⟨d0, d1, d2, e0, e1, e2⟩ := Frz.new w2 k e b
  clear hb3
  unfold rdV
  go_wp2
  exact bodyPost_ret (v := paV k e b 0) (by simp [results, Try.results24, go_sem, paV, *]) rfl ⟨rfl, ((HB3.out.setCell (Nat.le_refl _) _).setCell (Nat.le_refl _) _).setCell (Nat.le_refl _) _⟩
end Go.Proofs.Ytdojepkmjifoeaa
