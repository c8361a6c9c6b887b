/- The law of places that meet. -/
import Derived.Test.YtmflpjgedoopoaaDoorSO
import Derived.Test.YtmflpjgedoopoaaDoorSM
import Derived.Test.YtmflpjgedoopoaaDoorSR
namespace Go.Proofs.YtmflpjgedoopoaaDoor
open Go.RowKit

theorem meetN_comm (a b c d p a2 b2 c2 d2 p2 : Nat) : meetN a2 b2 c2 d2 p2 a b c d p = meetN a b c d p a2 b2 c2 d2 p2 := by
  unfold meetN
  rw [Bool.eq_iff_iff]
  simp
  constructor
  · rintro ⟨rfl, h⟩
    refine ⟨rfl, ?_⟩
    rcases h with (⟨rfl, rfl, rfl, rfl⟩ | h) | h
    · exact Or.inl (Or.inl ⟨rfl, rfl, rfl, rfl⟩)
    · exact Or.inr h
    · exact Or.inl (Or.inr h)
  · rintro ⟨rfl, h⟩
    refine ⟨rfl, ?_⟩
    rcases h with (⟨rfl, rfl, rfl, rfl⟩ | h) | h
    · exact Or.inl (Or.inl ⟨rfl, rfl, rfl, rfl⟩)
    · exact Or.inr h
    · exact Or.inl (Or.inr h)
theorem meetN_self (a b c d p : Nat) : meetN a b c d p a b c d p = true := by unfold meetN; simp
theorem bytes_back (c0 c1 c2 c3 c4 c5 : UInt8) : str (bytesN (byt ⟨#[c0, c1, c2, c3, c4, c5]⟩ 0) (byt ⟨#[c0, c1, c2, c3, c4, c5]⟩ 1) (byt ⟨#[c0, c1, c2, c3, c4, c5]⟩ 2) (byt ⟨#[c0, c1, c2, c3, c4, c5]⟩ 3) (portB ⟨#[c0, c1, c2, c3, c4, c5]⟩)) = ⟨#[c0, c1, c2, c3, c4, c5]⟩ := by
  have h5 := c5.toNat_lt
  have e : bytesN c0.toNat c1.toNat c2.toNat c3.toNat (c4.toNat * 256 + c5.toNat) = [c0, c1, c2, c3, c4, c5] := by
    unfold bytesN
    rw [be_two, show (c4.toNat * 256 + c5.toNat) / 256 = c4.toNat by omega, show (c4.toNat * 256 + c5.toNat) % 256 = c5.toNat by omega]
    simp
  show str (bytesN c0.toNat c1.toNat c2.toNat c3.toNat (c4.toNat * 256 + c5.toNat)) = _
  rw [e]; rfl
/-- How a text tells a place, or none. -/
theorem six_ways (s : ByteArray) : (((s.size : Int) == 6) = false ∧ ¬ (s.size = 6 ∧ portB s ≠ 0)) ∨
    (∃ c0 c1 c2 c3, s = ⟨#[c0, c1, c2, c3, 0, 0]⟩ ∧ ¬ (s.size = 6 ∧ portB s ≠ 0)) ∨
    (∃ c0 c1 c2 c3 c4 c5, s = ⟨#[c0, c1, c2, c3, c4, c5]⟩ ∧ (s.size = 6 ∧ portB s ≠ 0) ∧ ((((c4.toNat : Nat) : Int) == 0) = false ∨ ((((c4.toNat : Nat) : Int) == 0) = true ∧ (((c5.toNat : Nat) : Int) == 0) = false)) ∧ str (bytesN (byt s 0) (byt s 1) (byt s 2) (byt s 3) (portB s)) = s) := by
  by_cases hs : s.size = 6
  · obtain ⟨c0, c1, c2, c3, c4, c5, rfl⟩ := six s hs
    have hp : portB ⟨#[c0, c1, c2, c3, c4, c5]⟩ = c4.toNat * 256 + c5.toNat := rfl
    by_cases h4 : c4.toNat = 0
    · by_cases h5 : c5.toNat = 0
      · have hz : portB ⟨#[c0, c1, c2, c3, c4, c5]⟩ = 0 := by rw [hp, h4, h5]
        obtain rfl : c4 = 0 := UInt8.toNat_inj.1 h4
        obtain rfl : c5 = 0 := UInt8.toNat_inj.1 h5
        exact Or.inr (Or.inl ⟨c0, c1, c2, c3, rfl, fun h => h.2 hz⟩)
      · exact Or.inr (Or.inr ⟨c0, c1, c2, c3, c4, c5, rfl, ⟨rfl, by rw [hp]; omega⟩, Or.inr ⟨by rw [h4]; rfl, neq_int h5⟩, bytes_back c0 c1 c2 c3 c4 c5⟩)
    · exact Or.inr (Or.inr ⟨c0, c1, c2, c3, c4, c5, rfl, ⟨rfl, by rw [hp]; omega⟩, Or.inl (neq_int h4), bytes_back c0 c1 c2 c3 c4 c5⟩)
  · exact Or.inl ⟨neq_int hs, fun h => hs h.1⟩

set_option maxRecDepth 1000000 in
set_option maxHeartbeats 8000000 in
theorem smeets_walk (a b c d p a2 b2 c2 d2 p2 : Nat) (ha : a < 256) (hb : b < 256) (hc : c < 256) (hd : d < 256) (hp : p < 65536) (ha2 : a2 < 256) (hb2 : b2 < 256) (hc2 : c2 < 256) (hd2 : d2 < 256) (hp2 : p2 < 65536) (s : ByteArray) (w : World) (hl : Lay w) :
    Calls Tryd.prog 9 #[plc a b c d p, plc a2 b2 c2 d2 p2, .string s] w fun e w' => e = .returned (.bool true) ∧ Below w.heap.size w w' := by
  have HLAY := Lib.hid hl
  have HZ := Lib.hid (z2_start a b c d p a2 b2 c2 d2 p2 w 36)
  have K0 : Hid (∀ w1, Below w.heap.size w w1 → Calls Tryd.prog 28 #[] w1 fun e w' => e = .returned (.bool true) ∧ Below w1.heap.size w1 w') := Lib.hid (fun w1 h => sawake_any w1 (HLAY.out.later h))
  have KC := Lib.hid (cmp_any a b c d p a2 b2 c2 d2 p2 ha hb hc hd hp ha2 hb2 hc2 hd2 hp2)
  have KB1 := Lib.hid (rbytes_any a b c d p ha hb hc hd hp)
  have KB2 := Lib.hid (rbytes_any a2 b2 c2 d2 p2 ha2 hb2 hc2 hd2 hp2)
  have KM1 := Lib.hid (meet_any a b c d p a2 b2 c2 d2 p2)
  have KM2 := Lib.hid (rmeet_any a b c d p a2 b2 c2 d2 p2)
  have KM3 : Hid (∀ w, Calls Tryd.prog 36 #[plc a2 b2 c2 d2 p2, plc a b c d p] w fun e w' => e = .returned (.bool (meetN a b c d p a2 b2 c2 d2 p2)) ∧ Below w.heap.size w w') := Lib.hid (fun w => by
    rw [← meetN_comm]; exact meet_any a2 b2 c2 d2 p2 a b c d p w)
  have KM4 : Hid (∀ w, Calls Tryd.prog 36 #[plc a b c d p, plc a b c d p] w fun e w' => e = .returned (.bool true) ∧ Below w.heap.size w w') := Lib.hid (fun w => by
    rw [← meetN_self a b c d p]; exact meet_any a b c d p a b c d p w)
  have KA1 := Lib.hid (any_any a b c d p)
  have KA2 := Lib.hid (rany_any a b c d p)
  have KO := Lib.hid (of_any s)
  have hz9 : ∀ w, (Op.equalIn 9999 33 (.agg #[.int .u8 0, .int .u8 0, .int .u8 0, .int .u8 0]) (.agg #[.int .u8 0, .int .u8 0, .int .u8 0, .int .u8 0])).run Tryd.prog w = .ok true w := fun w => eqIPd 9997 0 0 0 0 0 0 0 0 w
  have hR : (cmpN a b c d p a2 b2 c2 d2 p2 = -1 ∧ Op.bytesLess (str (bytesN a b c d p)).toList (str (bytesN a2 b2 c2 d2 p2)).toList = true ∧ ((str (bytesN a b c d p)).toList == (str (bytesN a2 b2 c2 d2 p2)).toList) = false) ∨
      (cmpN a b c d p a2 b2 c2 d2 p2 = 0 ∧ Op.bytesLess (str (bytesN a b c d p)).toList (str (bytesN a2 b2 c2 d2 p2)).toList = false ∧ ((str (bytesN a b c d p)).toList == (str (bytesN a2 b2 c2 d2 p2)).toList) = true) ∨
      (cmpN a b c d p a2 b2 c2 d2 p2 = 1 ∧ Op.bytesLess (str (bytesN a b c d p)).toList (str (bytesN a2 b2 c2 d2 p2)).toList = false ∧ ((str (bytesN a b c d p)).toList == (str (bytesN a2 b2 c2 d2 p2)).toList) = false) := by
    rw [toListStr, toListStr, less_cmp]
    unfold cmpN
    have hz := cb_zero (bytesN a b c d p) (bytesN a2 b2 c2 d2 p2)
    rcases cb_range (bytesN a b c d p) (bytesN a2 b2 c2 d2 p2) with h | h | h <;> rw [h] at hz ⊢
    · refine Or.inl ⟨rfl, rfl, ?_⟩
      rw [beq_eq_false_iff_ne]; exact fun e => absurd (hz.2 e) (by decide)
    · refine Or.inr (Or.inl ⟨rfl, rfl, ?_⟩)
      rw [beq_iff_eq]; exact hz.1 rfl
    · refine Or.inr (Or.inr ⟨rfl, rfl, ?_⟩)
      rw [beq_eq_false_iff_ne]; exact fun e => absurd (hz.2 e) (by decide)
  obtain ⟨B1, l1⟩ : ∃ v, Op.bytesLess (str (bytesN a b c d p)).toList (str (bytesN a2 b2 c2 d2 p2)).toList = v := ⟨_, rfl⟩
  obtain ⟨B2, l2⟩ : ∃ v, ((str (bytesN a b c d p)).toList == (str (bytesN a2 b2 c2 d2 p2)).toList) = v := ⟨_, rfl⟩
  rw [l1, l2] at hR
  have HRB := Lib.hid hR
  clear hR
  generalize cmpN a b c d p a2 b2 c2 d2 p2 = R at *
  generalize meetN a b c d p a2 b2 c2 d2 p2 = M at *
  generalize anyN a b c d = V at *
  generalize str (bytesN a b c d p) = Z1 at *
  generalize str (bytesN a2 b2 c2 d2 p2) = Z2' at *
  clear hl ha hb hc hd hp ha2 hb2 hc2 hd2 hp2
  unfold plc at *
  by_cases hbig : 100 < s.size
  · have hbig' : (100 : Int) < s.size := by omega
    go_enter Tryd.func9, Tryd.ntmps9
    go_wp2_with fail
    generalize ((w.alloc (.cells #[.int .u8 a, .int .u8 b, .int .u8 c, .int .u8 d, .int .u16 p] 36)).alloc (.cells #[.int .u8 a2, .int .u8 b2, .int .u8 c2, .int .u8 d2, .int .u16 p2] 36)) = W at *
    refine (K0.out _ HZ.out.2.2.2).mono ?_
    rintro e w1 ⟨rfl, hb⟩
    replace HZ := Lib.hid (HZ.out.later hb)
    clear hb
    go_wp2
    go_ret
    exact ⟨rfl, HZ.out.2.2.2⟩
  · have hsz : s.size ≤ 100 := by omega
    clear hbig
    go_enter Tryd.func9, Tryd.ntmps9
    go_wp2_with fail
    generalize ((w.alloc (.cells #[.int .u8 a, .int .u8 b, .int .u8 c, .int .u8 d, .int .u16 p] 36)).alloc (.cells #[.int .u8 a2, .int .u8 b2, .int .u8 c2, .int .u8 d2, .int .u16 p2] 36)) = W at *
    refine (K0.out _ HZ.out.2.2.2).mono ?_
    rintro e w1 ⟨rfl, hb⟩
    replace HZ := Lib.hid (HZ.out.later hb)
    clear hb
    obtain ⟨⟨c00, c01, c02, c03, c04⟩, ⟨c10, c11, c12, c13, c14⟩, g5, g6⟩ := HZ.out
    go_wp2
    (go_region_held3 (fun w' => w'.cell? ⟨w.heap.size, 0, none⟩ = some (.int .u8 a) ∧ w'.cell? ⟨w.heap.size, 1, none⟩ = some (.int .u8 b) ∧ w'.cell? ⟨w.heap.size, 2, none⟩ = some (.int .u8 c) ∧ w'.cell? ⟨w.heap.size, 3, none⟩ = some (.int .u8 d) ∧ w'.cell? ⟨w.heap.size, 4, none⟩ = some (.int .u16 p) ∧ w'.cell? ⟨w.heap.size + 1, 0, none⟩ = some (.int .u8 a2) ∧ w'.cell? ⟨w.heap.size + 1, 1, none⟩ = some (.int .u8 b2) ∧ w'.cell? ⟨w.heap.size + 1, 2, none⟩ = some (.int .u8 c2) ∧ w'.cell? ⟨w.heap.size + 1, 3, none⟩ = some (.int .u8 d2) ∧ w'.cell? ⟨w.heap.size + 1, 4, none⟩ = some (.int .u16 p2) ∧ w.heap.size + 1 < w'.heap.size ∧ Below w.heap.size w w')
    (first
      | exact ⟨c00, c01, c02, c03, c04, c10, c11, c12, c13, c14, g5, g6.drew⟩
      | (go_split_ands
         refine ⟨?_, ?_, ?_, ?_, ?_, ?_, ?_, ?_, ?_, ?_, ?_, ?_⟩
         · (rw [hb1.cell (p := ⟨w.heap.size, 0, none⟩) (show w.heap.size < _ from by omega)]; assumption)
         · (rw [hb1.cell (p := ⟨w.heap.size, 1, none⟩) (show w.heap.size < _ from by omega)]; assumption)
         · (rw [hb1.cell (p := ⟨w.heap.size, 2, none⟩) (show w.heap.size < _ from by omega)]; assumption)
         · (rw [hb1.cell (p := ⟨w.heap.size, 3, none⟩) (show w.heap.size < _ from by omega)]; assumption)
         · (rw [hb1.cell (p := ⟨w.heap.size, 4, none⟩) (show w.heap.size < _ from by omega)]; assumption)
         · (rw [hb1.cell (p := ⟨w.heap.size + 1, 0, none⟩) (show w.heap.size + 1 < _ from by omega)]; assumption)
         · (rw [hb1.cell (p := ⟨w.heap.size + 1, 1, none⟩) (show w.heap.size + 1 < _ from by omega)]; assumption)
         · (rw [hb1.cell (p := ⟨w.heap.size + 1, 2, none⟩) (show w.heap.size + 1 < _ from by omega)]; assumption)
         · (rw [hb1.cell (p := ⟨w.heap.size + 1, 3, none⟩) (show w.heap.size + 1 < _ from by omega)]; assumption)
         · (rw [hb1.cell (p := ⟨w.heap.size + 1, 4, none⟩) (show w.heap.size + 1 < _ from by omega)]; assumption)
         · exact Nat.lt_of_lt_of_le (by assumption) hb1.size
         · exact Below.trans (by assumption) (hb1.mono (show w.heap.size ≤ _ from by omega)))
      | go_keep)
    (first
      | (go_at_call 35; ((with_reducible refine (KB1.out _).mono ?_); rintro e w1 ⟨rfl, hb1⟩))
      | (go_at_call 35; ((with_reducible refine (KB2.out _).mono ?_); rintro e w1 ⟨rfl, hb1⟩))))
    rename_i hS
    clear HZ c00 c01 c02 c03 c04 c10 c11 c12 c13 c14 g5 g6
    obtain ⟨c00, c01, c02, c03, c04, c10, c11, c12, c13, c14, g5, g6⟩ := hS
    have HZ := Lib.hid (show Z2 a b c d p a2 b2 c2 d2 p2 w _ from ⟨⟨c00, c01, c02, c03, c04⟩, ⟨c10, c11, c12, c13, c14⟩, g5, g6⟩)
    clear g6
    simp only [Exit.then]
    apply_assumption
    go_upto_if 23 with (fail)
    go_cut [9] (fun x wx => x = .int .i64 (cond B1 (-1) 0) ∧ wx = w1)
    case first =>
      cases B1
      all_goals go_wp2
      all_goals go_meet
      all_goals (case rel => exact ⟨rfl, rfl⟩)
    case rest =>
      obtain ⟨rfl, rfl⟩ := hcut
      go_upto_if 26 with (fail)
      go_cut [9] (fun x wx => x = .int .i64 R ∧ wx = wc)
      case first =>
        rcases HRB.out with ⟨rfl, rfl, rfl⟩ | ⟨rfl, rfl, rfl⟩ | ⟨rfl, rfl, rfl⟩
        all_goals go_wp2
        all_goals go_meet
        all_goals (case rel => exact ⟨rfl, rfl⟩)
      case rest =>
        obtain ⟨rfl, rfl⟩ := hcut
        clear l1 l2 HRB
        go_wp2_with fail
        refine (KO.out _).mono ?_
        rintro e w2 ⟨hb, hof⟩
        replace HZ := Lib.hid (HZ.out.later hb)
        clear hb KO
        clear c00 c01 c02 c03 c04 c10 c11 c12 c13 c14 g5
        obtain ⟨⟨c00, c01, c02, c03, c04⟩, ⟨c10, c11, c12, c13, c14⟩, g5, _⟩ := HZ.out
        rcases six_ways s with ⟨h6, hno⟩ | ⟨q0, q1, q2, q3, rfl, hno⟩ | ⟨q0, q1, q2, q3, q4, q5, hsq, hyes, h45, hstr⟩
        · rcases hof with ⟨k1, k2, _⟩ | ⟨_, rfl⟩
          · exact absurd ⟨k1, k2⟩ hno
          clear hno
          have h6' : ((s.size : Int) != 6) = true := by unfold bne; rw [h6]; rfl
          unfold plc at *
          go_wp2
          replace HZ := Lib.hid (HZ.out.later ((Below.refl w2.heap.size w2).alloc (Nat.le_refl _) (.cells #[.int .u8 0, .int .u8 0, .int .u8 0, .int .u8 0, .int .u16 0] 36)))
          generalize w2.alloc (.cells #[.int .u8 0, .int .u8 0, .int .u8 0, .int .u8 0, .int .u16 0] 36) = W3 at *
          clear c00 c01 c02 c03 c04 c10 c11 c12 c13 c14 g5
          obtain ⟨⟨c00, c01, c02, c03, c04⟩, ⟨c10, c11, c12, c13, c14⟩, g5, g6⟩ := HZ.out
          (go_region_held3 (fun w' => w'.cell? ⟨w.heap.size, 0, none⟩ = some (.int .u8 a) ∧ w'.cell? ⟨w.heap.size, 1, none⟩ = some (.int .u8 b) ∧ w'.cell? ⟨w.heap.size, 2, none⟩ = some (.int .u8 c) ∧ w'.cell? ⟨w.heap.size, 3, none⟩ = some (.int .u8 d) ∧ w'.cell? ⟨w.heap.size, 4, none⟩ = some (.int .u16 p) ∧ w'.cell? ⟨w.heap.size + 1, 0, none⟩ = some (.int .u8 a2) ∧ w'.cell? ⟨w.heap.size + 1, 1, none⟩ = some (.int .u8 b2) ∧ w'.cell? ⟨w.heap.size + 1, 2, none⟩ = some (.int .u8 c2) ∧ w'.cell? ⟨w.heap.size + 1, 3, none⟩ = some (.int .u8 d2) ∧ w'.cell? ⟨w.heap.size + 1, 4, none⟩ = some (.int .u16 p2) ∧ w.heap.size + 1 < w'.heap.size ∧ Below w.heap.size w w')
          (first
      | exact ⟨c00, c01, c02, c03, c04, c10, c11, c12, c13, c14, g5, g6.drew⟩
      | (go_split_ands
         refine ⟨?_, ?_, ?_, ?_, ?_, ?_, ?_, ?_, ?_, ?_, ?_, ?_⟩
         · (rw [hb1.cell (p := ⟨w.heap.size, 0, none⟩) (show w.heap.size < _ from by omega)]; assumption)
         · (rw [hb1.cell (p := ⟨w.heap.size, 1, none⟩) (show w.heap.size < _ from by omega)]; assumption)
         · (rw [hb1.cell (p := ⟨w.heap.size, 2, none⟩) (show w.heap.size < _ from by omega)]; assumption)
         · (rw [hb1.cell (p := ⟨w.heap.size, 3, none⟩) (show w.heap.size < _ from by omega)]; assumption)
         · (rw [hb1.cell (p := ⟨w.heap.size, 4, none⟩) (show w.heap.size < _ from by omega)]; assumption)
         · (rw [hb1.cell (p := ⟨w.heap.size + 1, 0, none⟩) (show w.heap.size + 1 < _ from by omega)]; assumption)
         · (rw [hb1.cell (p := ⟨w.heap.size + 1, 1, none⟩) (show w.heap.size + 1 < _ from by omega)]; assumption)
         · (rw [hb1.cell (p := ⟨w.heap.size + 1, 2, none⟩) (show w.heap.size + 1 < _ from by omega)]; assumption)
         · (rw [hb1.cell (p := ⟨w.heap.size + 1, 3, none⟩) (show w.heap.size + 1 < _ from by omega)]; assumption)
         · (rw [hb1.cell (p := ⟨w.heap.size + 1, 4, none⟩) (show w.heap.size + 1 < _ from by omega)]; assumption)
         · exact Nat.lt_of_lt_of_le (by assumption) hb1.size
         · exact Below.trans (by assumption) (hb1.mono (show w.heap.size ≤ _ from by omega)))
      | go_keep)
          (first
            | (go_at_call 38; ((with_reducible refine (KC.out _).mono ?_); rintro e w1 ⟨rfl, hb1⟩))
            | (go_at_call 37; ((with_reducible refine (KM2.out _).mono ?_); rintro e w1 ⟨rfl, hb1⟩))
            | (go_at_call 36; ((with_reducible refine (KM1.out _).mono ?_); rintro e w1 ⟨rfl, hb1⟩))
            | (go_at_call 36; ((with_reducible refine (KM3.out _).mono ?_); rintro e w1 ⟨rfl, hb1⟩))
            | (go_at_call 36; ((with_reducible refine (KM4.out _).mono ?_); rintro e w1 ⟨rfl, hb1⟩))
            | (go_at_call 39; ((with_reducible refine (KA1.out _).mono ?_); rintro e w1 ⟨rfl, hb1⟩))
            | (go_at_call 40; ((with_reducible refine (KA2.out _).mono ?_); rintro e w1 ⟨rfl, hb1⟩))))
          all_goals go_wp2
          all_goals go_ret
          all_goals
            refine ⟨rfl, ?_⟩
            rename_i hS
            exact hS.2.2.2.2.2.2.2.2.2.2.2
        · rcases hof with ⟨k1, k2, _⟩ | ⟨_, rfl⟩
          · exact absurd ⟨k1, k2⟩ hno
          clear hno
          unfold plc at *
          have i4 : (⟨#[q0, q1, q2, q3, 0, 0]⟩ : ByteArray)[4]'(by show (4 : Nat) < 6; decide) = 0 := rfl
          have i5 : (⟨#[q0, q1, q2, q3, 0, 0]⟩ : ByteArray)[5]'(by show (5 : Nat) < 6; decide) = 0 := rfl
          go_wp2
          replace HZ := Lib.hid (HZ.out.later ((Below.refl w2.heap.size w2).alloc (Nat.le_refl _) (.cells #[.int .u8 0, .int .u8 0, .int .u8 0, .int .u8 0, .int .u16 0] 36)))
          generalize w2.alloc (.cells #[.int .u8 0, .int .u8 0, .int .u8 0, .int .u8 0, .int .u16 0] 36) = W3 at *
          clear c00 c01 c02 c03 c04 c10 c11 c12 c13 c14 g5
          obtain ⟨⟨c00, c01, c02, c03, c04⟩, ⟨c10, c11, c12, c13, c14⟩, g5, g6⟩ := HZ.out
          (go_region_held3 (fun w' => w'.cell? ⟨w.heap.size, 0, none⟩ = some (.int .u8 a) ∧ w'.cell? ⟨w.heap.size, 1, none⟩ = some (.int .u8 b) ∧ w'.cell? ⟨w.heap.size, 2, none⟩ = some (.int .u8 c) ∧ w'.cell? ⟨w.heap.size, 3, none⟩ = some (.int .u8 d) ∧ w'.cell? ⟨w.heap.size, 4, none⟩ = some (.int .u16 p) ∧ w'.cell? ⟨w.heap.size + 1, 0, none⟩ = some (.int .u8 a2) ∧ w'.cell? ⟨w.heap.size + 1, 1, none⟩ = some (.int .u8 b2) ∧ w'.cell? ⟨w.heap.size + 1, 2, none⟩ = some (.int .u8 c2) ∧ w'.cell? ⟨w.heap.size + 1, 3, none⟩ = some (.int .u8 d2) ∧ w'.cell? ⟨w.heap.size + 1, 4, none⟩ = some (.int .u16 p2) ∧ w.heap.size + 1 < w'.heap.size ∧ Below w.heap.size w w')
          (first
      | exact ⟨c00, c01, c02, c03, c04, c10, c11, c12, c13, c14, g5, g6.drew⟩
      | (go_split_ands
         refine ⟨?_, ?_, ?_, ?_, ?_, ?_, ?_, ?_, ?_, ?_, ?_, ?_⟩
         · (rw [hb1.cell (p := ⟨w.heap.size, 0, none⟩) (show w.heap.size < _ from by omega)]; assumption)
         · (rw [hb1.cell (p := ⟨w.heap.size, 1, none⟩) (show w.heap.size < _ from by omega)]; assumption)
         · (rw [hb1.cell (p := ⟨w.heap.size, 2, none⟩) (show w.heap.size < _ from by omega)]; assumption)
         · (rw [hb1.cell (p := ⟨w.heap.size, 3, none⟩) (show w.heap.size < _ from by omega)]; assumption)
         · (rw [hb1.cell (p := ⟨w.heap.size, 4, none⟩) (show w.heap.size < _ from by omega)]; assumption)
         · (rw [hb1.cell (p := ⟨w.heap.size + 1, 0, none⟩) (show w.heap.size + 1 < _ from by omega)]; assumption)
         · (rw [hb1.cell (p := ⟨w.heap.size + 1, 1, none⟩) (show w.heap.size + 1 < _ from by omega)]; assumption)
         · (rw [hb1.cell (p := ⟨w.heap.size + 1, 2, none⟩) (show w.heap.size + 1 < _ from by omega)]; assumption)
         · (rw [hb1.cell (p := ⟨w.heap.size + 1, 3, none⟩) (show w.heap.size + 1 < _ from by omega)]; assumption)
         · (rw [hb1.cell (p := ⟨w.heap.size + 1, 4, none⟩) (show w.heap.size + 1 < _ from by omega)]; assumption)
         · exact Nat.lt_of_lt_of_le (by assumption) hb1.size
         · exact Below.trans (by assumption) (hb1.mono (show w.heap.size ≤ _ from by omega)))
      | go_keep)
          (first
            | (go_at_call 38; ((with_reducible refine (KC.out _).mono ?_); rintro e w1 ⟨rfl, hb1⟩))
            | (go_at_call 37; ((with_reducible refine (KM2.out _).mono ?_); rintro e w1 ⟨rfl, hb1⟩))
            | (go_at_call 36; ((with_reducible refine (KM1.out _).mono ?_); rintro e w1 ⟨rfl, hb1⟩))
            | (go_at_call 36; ((with_reducible refine (KM3.out _).mono ?_); rintro e w1 ⟨rfl, hb1⟩))
            | (go_at_call 36; ((with_reducible refine (KM4.out _).mono ?_); rintro e w1 ⟨rfl, hb1⟩))
            | (go_at_call 39; ((with_reducible refine (KA1.out _).mono ?_); rintro e w1 ⟨rfl, hb1⟩))
            | (go_at_call 40; ((with_reducible refine (KA2.out _).mono ?_); rintro e w1 ⟨rfl, hb1⟩))))
          all_goals go_wp2
          all_goals go_ret
          all_goals
            refine ⟨rfl, ?_⟩
            rename_i hS
            exact hS.2.2.2.2.2.2.2.2.2.2.2
        · rcases hof with ⟨k1, k2, rfl⟩ | ⟨k1, _⟩
          case inr => exact absurd hyes k1
          have KS := Lib.hid (bytes_any (byt s 0) (byt s 1) (byt s 2) (byt s 3) (portB s) (byt_lt s 0) (byt_lt s 1) (byt_lt s 2) (byt_lt s 3) (by have := byt_lt s 4; have := byt_lt s 5; unfold portB; omega))
          rw [hstr] at KS
          clear hstr k1 k2 hyes
          generalize byt s 0 = t0 at *
          generalize byt s 1 = t1 at *
          generalize byt s 2 = t2 at *
          generalize byt s 3 = t3 at *
          generalize portB s = t4 at *
          subst hsq
          unfold plc at *
          have i4 : (⟨#[q0, q1, q2, q3, q4, q5]⟩ : ByteArray)[4]'(by show (4 : Nat) < 6; decide) = q4 := rfl
          have i5 : (⟨#[q0, q1, q2, q3, q4, q5]⟩ : ByteArray)[5]'(by show (5 : Nat) < 6; decide) = q5 := rfl
          replace HZ := Lib.hid (HZ.out.later ((Below.refl w2.heap.size w2).alloc (Nat.le_refl _) (.cells #[.int .u8 t0, .int .u8 t1, .int .u8 t2, .int .u8 t3, .int .u16 t4] 36)))
          rcases h45 with h4 | ⟨h4, h5⟩
          all_goals
            go_wp2_with fail
            refine (KS.out _).mono ?_
            rintro e w3 ⟨rfl, hb⟩
            replace HZ := Lib.hid (HZ.out.later hb)
            clear hb
            go_wp2
            clear c00 c01 c02 c03 c04 c10 c11 c12 c13 c14 g5
            obtain ⟨⟨c00, c01, c02, c03, c04⟩, ⟨c10, c11, c12, c13, c14⟩, g5, g6⟩ := HZ.out
            (go_region_held3 (fun w' => w'.cell? ⟨w.heap.size, 0, none⟩ = some (.int .u8 a) ∧ w'.cell? ⟨w.heap.size, 1, none⟩ = some (.int .u8 b) ∧ w'.cell? ⟨w.heap.size, 2, none⟩ = some (.int .u8 c) ∧ w'.cell? ⟨w.heap.size, 3, none⟩ = some (.int .u8 d) ∧ w'.cell? ⟨w.heap.size, 4, none⟩ = some (.int .u16 p) ∧ w'.cell? ⟨w.heap.size + 1, 0, none⟩ = some (.int .u8 a2) ∧ w'.cell? ⟨w.heap.size + 1, 1, none⟩ = some (.int .u8 b2) ∧ w'.cell? ⟨w.heap.size + 1, 2, none⟩ = some (.int .u8 c2) ∧ w'.cell? ⟨w.heap.size + 1, 3, none⟩ = some (.int .u8 d2) ∧ w'.cell? ⟨w.heap.size + 1, 4, none⟩ = some (.int .u16 p2) ∧ w.heap.size + 1 < w'.heap.size ∧ Below w.heap.size w w')
            (first
      | exact ⟨c00, c01, c02, c03, c04, c10, c11, c12, c13, c14, g5, g6.drew⟩
      | (go_split_ands
         refine ⟨?_, ?_, ?_, ?_, ?_, ?_, ?_, ?_, ?_, ?_, ?_, ?_⟩
         · (rw [hb1.cell (p := ⟨w.heap.size, 0, none⟩) (show w.heap.size < _ from by omega)]; assumption)
         · (rw [hb1.cell (p := ⟨w.heap.size, 1, none⟩) (show w.heap.size < _ from by omega)]; assumption)
         · (rw [hb1.cell (p := ⟨w.heap.size, 2, none⟩) (show w.heap.size < _ from by omega)]; assumption)
         · (rw [hb1.cell (p := ⟨w.heap.size, 3, none⟩) (show w.heap.size < _ from by omega)]; assumption)
         · (rw [hb1.cell (p := ⟨w.heap.size, 4, none⟩) (show w.heap.size < _ from by omega)]; assumption)
         · (rw [hb1.cell (p := ⟨w.heap.size + 1, 0, none⟩) (show w.heap.size + 1 < _ from by omega)]; assumption)
         · (rw [hb1.cell (p := ⟨w.heap.size + 1, 1, none⟩) (show w.heap.size + 1 < _ from by omega)]; assumption)
         · (rw [hb1.cell (p := ⟨w.heap.size + 1, 2, none⟩) (show w.heap.size + 1 < _ from by omega)]; assumption)
         · (rw [hb1.cell (p := ⟨w.heap.size + 1, 3, none⟩) (show w.heap.size + 1 < _ from by omega)]; assumption)
         · (rw [hb1.cell (p := ⟨w.heap.size + 1, 4, none⟩) (show w.heap.size + 1 < _ from by omega)]; assumption)
         · exact Nat.lt_of_lt_of_le (by assumption) hb1.size
         · exact Below.trans (by assumption) (hb1.mono (show w.heap.size ≤ _ from by omega)))
      | go_keep)
            (first
              | (go_at_call 38; ((with_reducible refine (KC.out _).mono ?_); rintro e w1 ⟨rfl, hb1⟩))
              | (go_at_call 37; ((with_reducible refine (KM2.out _).mono ?_); rintro e w1 ⟨rfl, hb1⟩))
              | (go_at_call 36; ((with_reducible refine (KM1.out _).mono ?_); rintro e w1 ⟨rfl, hb1⟩))
              | (go_at_call 36; ((with_reducible refine (KM3.out _).mono ?_); rintro e w1 ⟨rfl, hb1⟩))
              | (go_at_call 36; ((with_reducible refine (KM4.out _).mono ?_); rintro e w1 ⟨rfl, hb1⟩))
              | (go_at_call 39; ((with_reducible refine (KA1.out _).mono ?_); rintro e w1 ⟨rfl, hb1⟩))
              | (go_at_call 40; ((with_reducible refine (KA2.out _).mono ?_); rintro e w1 ⟨rfl, hb1⟩))))
            all_goals go_wp2
            all_goals go_ret
            all_goals
              refine ⟨rfl, ?_⟩
              rename_i hS
              exact hS.2.2.2.2.2.2.2.2.2.2.2
end Go.Proofs.YtmflpjgedoopoaaDoor
