/- The law of the places' bytes. -/
import Derived.Test.YtmflpjgedoopoaaDoorSK
namespace Go.Proofs.YtmflpjgedoopoaaDoor
open Go.RowKit

theorem less_cmp : ∀ l m : List UInt8, Op.bytesLess l m = decide (Lib.compareBytes l m < 0)
  | [], [] => rfl
  | [], _ :: _ => rfl
  | _ :: _, [] => rfl
  | a :: l, b :: m => by
    unfold Op.bytesLess Lib.compareBytes
    rcases u8_tri a b with h | h | h
    · simp [h]
    · subst h; simp [u8_irrefl, less_cmp l m]
    · (have hne : ¬ a = b := (fun e => u8_irrefl b (by rw [e] at h; exact h)); simp [h, u8_asymm h, hne])
theorem toListStr (l : List UInt8) : (str l).toList = l := ByteArray.toList_mk l
theorem dg_good (n : Nat) : W.good (dg n) ∧ W.val (dg n) = n := ⟨(W.dec_good n).1, (W.dec_good n).2.1⟩
theorem dg_inj {a b : Nat} (h : dg a = dg b) : a = b := by
  have := congrArg W.val h
  rwa [(dg_good a).2, (dg_good b).2] at this
theorem textN_inj {a b c d p a2 b2 c2 d2 p2 : Nat} (h : textN a b c d p = textN a2 b2 c2 d2 p2) : (a = a2 ∧ b = b2 ∧ c = c2 ∧ d = d2) ∧ p = p2 := by
  unfold textN joinN at h
  simp only [List.append_assoc, List.cons_append] at h
  obtain ⟨h0, h⟩ := first_unique (good_free (dg_good a).1).1 (good_free (dg_good a2).1).1 h
  obtain ⟨h1, h⟩ := first_unique (good_free (dg_good b).1).1 (good_free (dg_good b2).1).1 h
  obtain ⟨h2, h⟩ := first_unique (good_free (dg_good c).1).1 (good_free (dg_good c2).1).1 h
  obtain ⟨h3, h⟩ := first_unique (good_free (dg_good d).1).2 (good_free (dg_good d2).1).2 h
  exact ⟨⟨dg_inj h0, dg_inj h1, dg_inj h2, dg_inj h3⟩, dg_inj h⟩
theorem blk_two (a b c d p a2 b2 c2 d2 p2 : Nat) (w : World) : Blk w.heap.size a b c d p ((w.alloc (.cells #[.int .u8 a, .int .u8 b, .int .u8 c, .int .u8 d, .int .u16 p] 36)).alloc (.cells #[.int .u8 a2, .int .u8 b2, .int .u8 c2, .int .u8 d2, .int .u16 p2] 36)) ∧ Blk (w.heap.size + 1) a2 b2 c2 d2 p2 ((w.alloc (.cells #[.int .u8 a, .int .u8 b, .int .u8 c, .int .u8 d, .int .u16 p] 36)).alloc (.cells #[.int .u8 a2, .int .u8 b2, .int .u8 c2, .int .u8 d2, .int .u16 p2] 36)) ∧ Below w.heap.size w ((w.alloc (.cells #[.int .u8 a, .int .u8 b, .int .u8 c, .int .u8 d, .int .u16 p] 36)).alloc (.cells #[.int .u8 a2, .int .u8 b2, .int .u8 c2, .int .u8 d2, .int .u16 p2] 36)) := by
  have h1 := heap_alloc_new w (.cells #[.int .u8 a, .int .u8 b, .int .u8 c, .int .u8 d, .int .u16 p] 36)
  have h2 := heap_alloc_new (w.alloc (.cells #[.int .u8 a, .int .u8 b, .int .u8 c, .int .u8 d, .int .u16 p] 36)) (.cells #[.int .u8 a2, .int .u8 b2, .int .u8 c2, .int .u8 d2, .int .u16 p2] 36)
  rw [show (w.alloc (.cells #[.int .u8 a, .int .u8 b, .int .u8 c, .int .u8 d, .int .u16 p] 36)).heap.size = w.heap.size + 1 by simp] at h2
  refine ⟨?_, h2, ((Below.refl _ _).alloc (Nat.le_refl _) _).alloc (by simp) _⟩
  unfold Blk
  rw [Below.heap_alloc _ _ _ (by simp)]; exact h1

set_option maxRecDepth 1000000 in
set_option maxHeartbeats 4000000 in
theorem sbytes_walk (a b c d p a2 b2 c2 d2 p2 : Nat) (ha : a < 256) (hb : b < 256) (hc : c < 256) (hd : d < 256) (hp : p < 65536) (ha2 : a2 < 256) (hb2 : b2 < 256) (hc2 : c2 < 256) (hd2 : d2 < 256) (hp2 : p2 < 65536) (w : World) (hl : Lay w) :
    Calls Tryd.prog 11 #[plc a b c d p, plc a2 b2 c2 d2 p2] w fun e w' => e = .returned (.bool true) ∧ Below w.heap.size w w' := by
  have HLAY := Lib.hid hl
  have B0 := Lib.hid (blk_two a b c d p a2 b2 c2 d2 p2 w)
  have K0 : Hid (∀ w1, Below w.heap.size w w1 → Calls Tryd.prog 28 #[] w1 fun e w' => e = .returned (.bool true) ∧ Below w1.heap.size w1 w') := Lib.hid (fun w1 h => sawake_any w1 (HLAY.out.later h))
  have KC := Lib.hid (cmp_any a b c d p a2 b2 c2 d2 p2 ha hb hc hd hp ha2 hb2 hc2 hd2 hp2)
  have KB1 := Lib.hid (bytes_any a b c d p ha hb hc hd hp)
  have KB2 := Lib.hid (bytes_any a2 b2 c2 d2 p2 ha2 hb2 hc2 hd2 hp2)
  have KT1 : Hid (∀ w1, Below w.heap.size w w1 → Calls Tryd.prog 31 #[plc a b c d p] w1 fun e w' => e = .returned (.string (str (textN a b c d p))) ∧ Below w1.heap.size w1 w') := Lib.hid (fun w1 h => text_any a b c d p ha hb hc hd hp w1 (HLAY.out.later h))
  have KT2 : Hid (∀ w1, Below w.heap.size w w1 → Calls Tryd.prog 31 #[plc a2 b2 c2 d2 p2] w1 fun e w' => e = .returned (.string (str (textN a2 b2 c2 d2 p2))) ∧ Below w1.heap.size w1 w') := Lib.hid (fun w1 h => text_any a2 b2 c2 d2 p2 ha2 hb2 hc2 hd2 hp2 w1 (HLAY.out.later h))
  have hE := eqPl a b c d p a2 b2 c2 d2 p2
  have hS1 : ((str (bytesN a b c d p)).toList == (str (bytesN a2 b2 c2 d2 p2)).toList) = samePl a b c d p a2 b2 c2 d2 p2 := by
    rw [toListStr, toListStr, Bool.eq_iff_iff, beq_iff_eq]
    unfold samePl
    rw [decide_eq_true_eq]
    constructor
    · intro h
      obtain ⟨e0, e1, e2, e3, e4⟩ := bytesN_inj ha hb hc hd hp ha2 hb2 hc2 hd2 hp2 h
      exact ⟨⟨e0, e1, e2, e3⟩, e4⟩
    · rintro ⟨⟨rfl, rfl, rfl, rfl⟩, rfl⟩; rfl
  have hS2 : ((str (textN a b c d p)).toList == (str (textN a2 b2 c2 d2 p2)).toList) = samePl a b c d p a2 b2 c2 d2 p2 := by
    rw [toListStr, toListStr, Bool.eq_iff_iff, beq_iff_eq]
    unfold samePl
    rw [decide_eq_true_eq]
    constructor
    · intro h
      exact textN_inj h
    · rintro ⟨⟨rfl, rfl, rfl, rfl⟩, rfl⟩; rfl
  have hlt : Op.bytesLess (str (bytesN a b c d p)).toList (str (bytesN a2 b2 c2 d2 p2)).toList = decide (cmpN a b c d p a2 b2 c2 d2 p2 < 0) := by
    rw [toListStr, toListStr]; exact less_cmp _ _
  have hsz : (str (bytesN a b c d p)).size = 6 := by rw [str_size]; unfold bytesN; simp [W.be_length]
  generalize cmpN a b c d p a2 b2 c2 d2 p2 = R at *
  generalize samePl a b c d p a2 b2 c2 d2 p2 = S at *
  generalize str (textN a b c d p) = T1 at *
  generalize str (textN a2 b2 c2 d2 p2) = T2 at *
  generalize str (bytesN a b c d p) = Z1 at *
  generalize str (bytesN a2 b2 c2 d2 p2) = Z2 at *
  clear hl ha hb hc hd hp ha2 hb2 hc2 hd2 hp2
  unfold plc at *
  go_enter Tryd.func11, Tryd.ntmps11
  go_wp2_with fail
  generalize ((w.alloc (.cells #[.int .u8 a, .int .u8 b, .int .u8 c, .int .u8 d, .int .u16 p] 36)).alloc (.cells #[.int .u8 a2, .int .u8 b2, .int .u8 c2, .int .u8 d2, .int .u16 p2] 36)) = W at *
  refine (K0.out _ B0.out.2.2).mono ?_
  rintro e w1 ⟨rfl, hb⟩
  have Q0 := (hb.block _ (lt_of_some B0.out.1)).trans B0.out.1
  have Q1 := (hb.block _ (lt_of_some B0.out.2.1)).trans B0.out.2.1
  have g5 := lt_of_some Q1
  have g6 := B0.out.2.2.trans (hb.mono B0.out.2.2.size)
  obtain ⟨⟨c00, c01, c02, c03, c04⟩, _⟩ := Blk.cells Q0
  obtain ⟨⟨c10, c11, c12, c13, c14⟩, _⟩ := Blk.cells Q1
  clear hb Q0 Q1 B0
  go_wp2
  have hR : (R < 0 ∧ decide (R < 0) = true) ∨ (¬ R < 0 ∧ decide (R < 0) = false) := by
    by_cases h : R < 0
    · exact Or.inl ⟨h, decide_eq_true h⟩
    · exact Or.inr ⟨h, decide_eq_false h⟩
  rcases hR with ⟨hr, hr'⟩ | ⟨hr, hr'⟩ <;> rw [hr'] at hlt <;> cases S
  all_goals
   (go_region_held3 (fun w' => w'.cell? ⟨w.heap.size, 0, none⟩ = some (.int .u8 a) ∧ w'.cell? ⟨w.heap.size, 1, none⟩ = some (.int .u8 b) ∧ w'.cell? ⟨w.heap.size, 2, none⟩ = some (.int .u8 c) ∧ w'.cell? ⟨w.heap.size, 3, none⟩ = some (.int .u8 d) ∧ w'.cell? ⟨w.heap.size, 4, none⟩ = some (.int .u16 p) ∧ w'.cell? ⟨w.heap.size + 1, 0, none⟩ = some (.int .u8 a2) ∧ w'.cell? ⟨w.heap.size + 1, 1, none⟩ = some (.int .u8 b2) ∧ w'.cell? ⟨w.heap.size + 1, 2, none⟩ = some (.int .u8 c2) ∧ w'.cell? ⟨w.heap.size + 1, 3, none⟩ = some (.int .u8 d2) ∧ w'.cell? ⟨w.heap.size + 1, 4, none⟩ = some (.int .u16 p2) ∧ w.heap.size + 1 < w'.heap.size ∧ Below w.heap.size w w')
    (first
      | exact ⟨c00, c01, c02, c03, c04, c10, c11, c12, c13, c14, g5, g6.drew⟩
      | (go_split_ands
         refine ⟨?_, ?_, ?_, ?_, ?_, ?_, ?_, ?_, ?_, ?_, ?_, ?_⟩
         · (rw [hb1.cell (p := ⟨w.heap.size, 0, none⟩) (show w.heap.size < _ from by omega)]; assumption)
         · (rw [hb1.cell (p := ⟨w.heap.size, 1, none⟩) (show w.heap.size < _ from by omega)]; assumption)
         · (rw [hb1.cell (p := ⟨w.heap.size, 2, none⟩) (show w.heap.size < _ from by omega)]; assumption)
         · (rw [hb1.cell (p := ⟨w.heap.size, 3, none⟩) (show w.heap.size < _ from by omega)]; assumption)
         · (rw [hb1.cell (p := ⟨w.heap.size, 4, none⟩) (show w.heap.size < _ from by omega)]; assumption)
         · (rw [hb1.cell (p := ⟨w.heap.size + 1, 0, none⟩) (show w.heap.size + 1 < _ from by omega)]; assumption)
         · (rw [hb1.cell (p := ⟨w.heap.size + 1, 1, none⟩) (show w.heap.size + 1 < _ from by omega)]; assumption)
         · (rw [hb1.cell (p := ⟨w.heap.size + 1, 2, none⟩) (show w.heap.size + 1 < _ from by omega)]; assumption)
         · (rw [hb1.cell (p := ⟨w.heap.size + 1, 3, none⟩) (show w.heap.size + 1 < _ from by omega)]; assumption)
         · (rw [hb1.cell (p := ⟨w.heap.size + 1, 4, none⟩) (show w.heap.size + 1 < _ from by omega)]; assumption)
         · exact Nat.lt_of_lt_of_le (by assumption) hb1.size
         · exact Below.trans (by assumption) (hb1.mono (show w.heap.size ≤ _ from by omega)))
      | go_keep)
    (first
      | (go_at_call 38; ((with_reducible refine (KC.out _).mono ?_); rintro e w1 ⟨rfl, hb1⟩))
      | (go_at_call 33; ((with_reducible refine (KB1.out _).mono ?_); rintro e w1 ⟨rfl, hb1⟩))
      | (go_at_call 33; ((with_reducible refine (KB2.out _).mono ?_); rintro e w1 ⟨rfl, hb1⟩))
      | (go_at_call 31; ((with_reducible refine (KT1.out _ ?_).mono ?_); (go_split_ands; assumption); rintro e w1 ⟨rfl, hb1⟩))
      | (go_at_call 31; ((with_reducible refine (KT2.out _ ?_).mono ?_); (go_split_ands; assumption); rintro e w1 ⟨rfl, hb1⟩))))
  all_goals go_wp2
  all_goals go_ret
  all_goals
    refine ⟨rfl, ?_⟩
    rename_i hS
    exact hS.2.2.2.2.2.2.2.2.2.2.2
end Go.Proofs.YtmflpjgedoopoaaDoor
