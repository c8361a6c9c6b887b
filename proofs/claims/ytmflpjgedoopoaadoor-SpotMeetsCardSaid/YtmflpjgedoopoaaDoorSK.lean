/- The law of the places' order. -/
import Derived.Test.YtmflpjgedoopoaaDoorSJ
namespace Go.Proofs.YtmflpjgedoopoaaDoor
open Go.RowKit

def plc0 (p : Nat) : Value := .agg #[.int .u8 0, .int .u8 0, .int .u8 0, .int .u8 0, .int .u16 p]
def PlAt0 (g p : Nat) (w : World) : Prop :=
  w.cell? ⟨g, 0, none⟩ = some (.int .u8 0) ∧ w.cell? ⟨g, 1, none⟩ = some (.int .u8 0) ∧ w.cell? ⟨g, 2, none⟩ = some (.int .u8 0) ∧ w.cell? ⟨g, 3, none⟩ = some (.int .u8 0) ∧ w.cell? ⟨g, 4, none⟩ = some (.int .u16 p)
def Z4 (a b c d p a2 b2 c2 d2 p2 g3 : Nat) (w W : World) : Prop := PlAt w.heap.size a b c d p W ∧ PlAt (w.heap.size + 1) a2 b2 c2 d2 p2 W ∧ PlAt0 g3 p W ∧ w.heap.size + 1 < W.heap.size ∧ g3 < W.heap.size ∧ Below w.heap.size w W
theorem Z4.later {a b c d p a2 b2 c2 d2 p2 g3 : Nat} {w W W' : World} (h : Z4 a b c d p a2 b2 c2 d2 p2 g3 w W) (hb : Below W.heap.size W W') : Z4 a b c d p a2 b2 c2 d2 p2 g3 w W' := by
  obtain ⟨h1, h2, h3, h4, h5, h6⟩ := h
  exact ⟨h1.later (by omega) hb, h2.later h4 hb, PlAt.later (a := 0) (b := 0) (c := 0) (d := 0) h3 h5 hb, Nat.lt_of_lt_of_le h4 hb.size, Nat.lt_of_lt_of_le h5 hb.size, h6.trans (hb.mono h6.size)⟩
theorem z4_start {a b c d p a2 b2 c2 d2 p2 : Nat} {w W : World} (h1 : PlAt w.heap.size a b c d p W) (h2 : PlAt (w.heap.size + 1) a2 b2 c2 d2 p2 W) (h4 : w.heap.size + 1 < W.heap.size) (h6 : Below w.heap.size w W) :
    Z4 a b c d p a2 b2 c2 d2 p2 W.heap.size w (W.alloc (.cells #[.int .u8 0, .int .u8 0, .int .u8 0, .int .u8 0, .int .u16 p] 36)) := by
  have hb : Below W.heap.size W (W.alloc (.cells #[.int .u8 0, .int .u8 0, .int .u8 0, .int .u8 0, .int .u16 p] 36)) := (Below.refl _ _).alloc (Nat.le_refl _) _
  refine ⟨h1.later (by omega) hb, h2.later h4 hb, ?_, Nat.lt_of_lt_of_le h4 hb.size, by simp, h6.trans (hb.mono h6.size)⟩
  refine ⟨?_, ?_, ?_, ?_, ?_⟩ <;> (rw [World.cell?_alloc_new]; rfl)
theorem blk_three (a b c d p a2 b2 c2 d2 p2 a3 b3 c3 d3 p3 : Nat) (w : World) : Blk w.heap.size a b c d p (((w.alloc (.cells #[.int .u8 a, .int .u8 b, .int .u8 c, .int .u8 d, .int .u16 p] 36)).alloc (.cells #[.int .u8 a2, .int .u8 b2, .int .u8 c2, .int .u8 d2, .int .u16 p2] 36)).alloc (.cells #[.int .u8 a3, .int .u8 b3, .int .u8 c3, .int .u8 d3, .int .u16 p3] 36)) ∧ Blk (w.heap.size + 1) a2 b2 c2 d2 p2 (((w.alloc (.cells #[.int .u8 a, .int .u8 b, .int .u8 c, .int .u8 d, .int .u16 p] 36)).alloc (.cells #[.int .u8 a2, .int .u8 b2, .int .u8 c2, .int .u8 d2, .int .u16 p2] 36)).alloc (.cells #[.int .u8 a3, .int .u8 b3, .int .u8 c3, .int .u8 d3, .int .u16 p3] 36)) ∧ Blk (w.heap.size + 1 + 1) a3 b3 c3 d3 p3 (((w.alloc (.cells #[.int .u8 a, .int .u8 b, .int .u8 c, .int .u8 d, .int .u16 p] 36)).alloc (.cells #[.int .u8 a2, .int .u8 b2, .int .u8 c2, .int .u8 d2, .int .u16 p2] 36)).alloc (.cells #[.int .u8 a3, .int .u8 b3, .int .u8 c3, .int .u8 d3, .int .u16 p3] 36)) ∧ Below w.heap.size w (((w.alloc (.cells #[.int .u8 a, .int .u8 b, .int .u8 c, .int .u8 d, .int .u16 p] 36)).alloc (.cells #[.int .u8 a2, .int .u8 b2, .int .u8 c2, .int .u8 d2, .int .u16 p2] 36)).alloc (.cells #[.int .u8 a3, .int .u8 b3, .int .u8 c3, .int .u8 d3, .int .u16 p3] 36)) := by
  have h1 := heap_alloc_new w (.cells #[.int .u8 a, .int .u8 b, .int .u8 c, .int .u8 d, .int .u16 p] 36)
  have h2 := heap_alloc_new (w.alloc (.cells #[.int .u8 a, .int .u8 b, .int .u8 c, .int .u8 d, .int .u16 p] 36)) (.cells #[.int .u8 a2, .int .u8 b2, .int .u8 c2, .int .u8 d2, .int .u16 p2] 36)
  have h3 := heap_alloc_new ((w.alloc (.cells #[.int .u8 a, .int .u8 b, .int .u8 c, .int .u8 d, .int .u16 p] 36)).alloc (.cells #[.int .u8 a2, .int .u8 b2, .int .u8 c2, .int .u8 d2, .int .u16 p2] 36)) (.cells #[.int .u8 a3, .int .u8 b3, .int .u8 c3, .int .u8 d3, .int .u16 p3] 36)
  rw [show (w.alloc (.cells #[.int .u8 a, .int .u8 b, .int .u8 c, .int .u8 d, .int .u16 p] 36)).heap.size = w.heap.size + 1 by simp] at h2
  rw [show ((w.alloc (.cells #[.int .u8 a, .int .u8 b, .int .u8 c, .int .u8 d, .int .u16 p] 36)).alloc (.cells #[.int .u8 a2, .int .u8 b2, .int .u8 c2, .int .u8 d2, .int .u16 p2] 36)).heap.size = w.heap.size + 1 + 1 by simp] at h3
  refine ⟨?_, ?_, h3, (((Below.refl _ _).alloc (Nat.le_refl _) _).alloc (by simp) _).alloc (by simp; omega) _⟩
  · unfold Blk
    rw [Below.heap_alloc _ _ _ (by simp; omega), Below.heap_alloc _ _ _ (by simp)]; exact h1
  · unfold Blk
    rw [Below.heap_alloc _ _ _ (by simp)]; exact h2

set_option maxRecDepth 1000000 in
set_option maxHeartbeats 4000000 in
theorem order_walk (a b c d p a2 b2 c2 d2 p2 a3 b3 c3 d3 p3 : Nat) (ha : a < 256) (hb : b < 256) (hc : c < 256) (hd : d < 256) (hp : p < 65536) (ha2 : a2 < 256) (hb2 : b2 < 256) (hc2 : c2 < 256) (hd2 : d2 < 256) (hp2 : p2 < 65536) (ha3 : a3 < 256) (hb3 : b3 < 256) (hc3 : c3 < 256) (hd3 : d3 < 256) (hp3 : p3 < 65536) (w : World) (hl : Lay w) :
    Calls Tryd.prog 10 #[plc a b c d p, plc a2 b2 c2 d2 p2, plc a3 b3 c3 d3 p3] w fun e w' => e = .returned (.bool true) ∧ Below w.heap.size w w' := by
  have HLAY := Lib.hid hl
  have B0 := Lib.hid (blk_three a b c d p a2 b2 c2 d2 p2 a3 b3 c3 d3 p3 w)
  have K0 : Hid (∀ w1, Below w.heap.size w w1 → Calls Tryd.prog 28 #[] w1 fun e w' => e = .returned (.bool true) ∧ Below w1.heap.size w1 w') := Lib.hid (fun w1 h => sawake_any w1 (HLAY.out.later h))
  have K1 := Lib.hid (cmp_any a b c d p a2 b2 c2 d2 p2 ha hb hc hd hp ha2 hb2 hc2 hd2 hp2)
  have K2 := Lib.hid (cmp_any a2 b2 c2 d2 p2 a3 b3 c3 d3 p3 ha2 hb2 hc2 hd2 hp2 ha3 hb3 hc3 hd3 hp3)
  have K3 := Lib.hid (cmp_any a b c d p a3 b3 c3 d3 p3 ha hb hc hd hp ha3 hb3 hc3 hd3 hp3)
  have K4 := Lib.hid (cmp_any a2 b2 c2 d2 p2 a b c d p ha2 hb2 hc2 hd2 hp2 ha hb hc hd hp)
  have FT : cmpN a b c d p a2 b2 c2 d2 p2 ≤ 0 → cmpN a2 b2 c2 d2 p2 a3 b3 c3 d3 p3 ≤ 0 → cmpN a b c d p a3 b3 c3 d3 p3 ≤ 0 := cb_trans _ _ _
  have F1 : (cmpN a b c d p a2 b2 c2 d2 p2 = 1 ∧ cmpN a2 b2 c2 d2 p2 a b c d p = -1) ∨ (cmpN a b c d p a2 b2 c2 d2 p2 = 0 ∧ cmpN a2 b2 c2 d2 p2 a b c d p = 0) ∨ (cmpN a b c d p a2 b2 c2 d2 p2 = -1 ∧ cmpN a2 b2 c2 d2 p2 a b c d p = 1) := by
    have h1 := cb_range (bytesN a b c d p) (bytesN a2 b2 c2 d2 p2)
    have h2 := cb_anti (bytesN a b c d p) (bytesN a2 b2 c2 d2 p2)
    unfold cmpN
    omega
  have FS : cmpN a b c d p a2 b2 c2 d2 p2 = 0 ↔ samePl a b c d p a2 b2 c2 d2 p2 = true := by
    unfold cmpN samePl
    rw [cb_zero, decide_eq_true_eq]
    constructor
    · intro h
      obtain ⟨e0, e1, e2, e3, e4⟩ := bytesN_inj ha hb hc hd hp ha2 hb2 hc2 hd2 hp2 h
      exact ⟨⟨e0, e1, e2, e3⟩, e4⟩
    · rintro ⟨⟨rfl, rfl, rfl, rfl⟩, rfl⟩; rfl
  have hE := eqPl a b c d p a2 b2 c2 d2 p2
  have KA : Hid (∀ w, Calls Tryd.prog 39 #[plc0 p] w fun e w' => e = .returned (.bool true) ∧ Below w.heap.size w w') := Lib.hid (any_any 0 0 0 0 p)
  have KM1 : Hid (∀ w, Calls Tryd.prog 36 #[plc a b c d p, plc0 p] w fun e w' => e = .returned (.bool true) ∧ Below w.heap.size w w') := Lib.hid (fun w => by
    have h := meet_any a b c d p 0 0 0 0 p w
    rw [show meetN a b c d p 0 0 0 0 p = true by simp [meetN, anyN]] at h
    exact h)
  have KM2 := Lib.hid (meet_any a b c d p a2 b2 c2 d2 p2)
  have KM3 : Hid (meetN a b c d p a2 b2 c2 d2 p2 = true → ∀ w, Calls Tryd.prog 36 #[plc a2 b2 c2 d2 p2, plc0 p] w fun e w' => e = .returned (.bool true) ∧ Below w.heap.size w w') := Lib.hid (fun hm w => by
    have h := meet_any a2 b2 c2 d2 p2 0 0 0 0 p w
    have hp : p = p2 := by unfold meetN at hm; simp at hm; exact hm.1
    rw [show meetN a2 b2 c2 d2 p2 0 0 0 0 p = true by simp [meetN, anyN, hp]] at h
    exact h)
  generalize cmpN a b c d p a2 b2 c2 d2 p2 = R1 at *
  generalize cmpN a2 b2 c2 d2 p2 a3 b3 c3 d3 p3 = R2 at *
  generalize cmpN a b c d p a3 b3 c3 d3 p3 = R3 at *
  generalize cmpN a2 b2 c2 d2 p2 a b c d p = R4 at *
  have F1 : Hid ((R1 = 1 ∧ R4 = -1) ∨ (R1 = 0 ∧ R4 = 0) ∨ (R1 = -1 ∧ R4 = 1)) := Lib.hid F1
  have HT := Lib.hid FT
  have HS := Lib.hid FS
  generalize meetN a b c d p a2 b2 c2 d2 p2 = M1 at *
  generalize samePl a b c d p a2 b2 c2 d2 p2 = S1 at *
  clear FT FS hl ha hb hc hd hp ha2 hb2 hc2 hd2 hp2 ha3 hb3 hc3 hd3 hp3
  unfold plc plc0 at *
  go_enter Tryd.func10, Tryd.ntmps10
  go_wp2_with fail
  generalize (((w.alloc (.cells #[.int .u8 a, .int .u8 b, .int .u8 c, .int .u8 d, .int .u16 p] 36)).alloc (.cells #[.int .u8 a2, .int .u8 b2, .int .u8 c2, .int .u8 d2, .int .u16 p2] 36)).alloc (.cells #[.int .u8 a3, .int .u8 b3, .int .u8 c3, .int .u8 d3, .int .u16 p3] 36)) = W at *
  refine (K0.out _ B0.out.2.2.2).mono ?_
  rintro e w1 ⟨rfl, hb⟩
  have Q0 := (hb.block _ (lt_of_some B0.out.1)).trans B0.out.1
  have Q1 := (hb.block _ (lt_of_some B0.out.2.1)).trans B0.out.2.1
  have Q2 := (hb.block _ (lt_of_some B0.out.2.2.1)).trans B0.out.2.2.1
  have g5 := lt_of_some Q2
  have g6 := B0.out.2.2.2.trans (hb.mono B0.out.2.2.2.size)
  obtain ⟨⟨c00, c01, c02, c03, c04⟩, _⟩ := Blk.cells Q0
  obtain ⟨⟨c10, c11, c12, c13, c14⟩, _⟩ := Blk.cells Q1
  obtain ⟨⟨c20, c21, c22, c23, c24⟩, _⟩ := Blk.cells Q2
  clear hb Q0 Q1 Q2 B0
  go_wp2
  go_region_held3 (fun w' => w'.cell? ⟨w.heap.size, 0, none⟩ = some (.int .u8 a) ∧ w'.cell? ⟨w.heap.size, 1, none⟩ = some (.int .u8 b) ∧ w'.cell? ⟨w.heap.size, 2, none⟩ = some (.int .u8 c) ∧ w'.cell? ⟨w.heap.size, 3, none⟩ = some (.int .u8 d) ∧ w'.cell? ⟨w.heap.size, 4, none⟩ = some (.int .u16 p) ∧ w'.cell? ⟨w.heap.size + 1, 0, none⟩ = some (.int .u8 a2) ∧ w'.cell? ⟨w.heap.size + 1, 1, none⟩ = some (.int .u8 b2) ∧ w'.cell? ⟨w.heap.size + 1, 2, none⟩ = some (.int .u8 c2) ∧ w'.cell? ⟨w.heap.size + 1, 3, none⟩ = some (.int .u8 d2) ∧ w'.cell? ⟨w.heap.size + 1, 4, none⟩ = some (.int .u16 p2) ∧ w'.cell? ⟨w.heap.size + 1 + 1, 0, none⟩ = some (.int .u8 a3) ∧ w'.cell? ⟨w.heap.size + 1 + 1, 1, none⟩ = some (.int .u8 b3) ∧ w'.cell? ⟨w.heap.size + 1 + 1, 2, none⟩ = some (.int .u8 c3) ∧ w'.cell? ⟨w.heap.size + 1 + 1, 3, none⟩ = some (.int .u8 d3) ∧ w'.cell? ⟨w.heap.size + 1 + 1, 4, none⟩ = some (.int .u16 p3) ∧ w.heap.size + 1 + 1 < w'.heap.size ∧ Below w.heap.size w w')
    (first
      | exact ⟨c00, c01, c02, c03, c04, c10, c11, c12, c13, c14, c20, c21, c22, c23, c24, g5, g6.drew⟩
      | (go_split_ands
         refine ⟨?_, ?_, ?_, ?_, ?_, ?_, ?_, ?_, ?_, ?_, ?_, ?_, ?_, ?_, ?_, ?_, ?_⟩
         · (rw [hb1.cell (p := ⟨w.heap.size, 0, none⟩) (show w.heap.size < _ from by omega)]; assumption)
         · (rw [hb1.cell (p := ⟨w.heap.size, 1, none⟩) (show w.heap.size < _ from by omega)]; assumption)
         · (rw [hb1.cell (p := ⟨w.heap.size, 2, none⟩) (show w.heap.size < _ from by omega)]; assumption)
         · (rw [hb1.cell (p := ⟨w.heap.size, 3, none⟩) (show w.heap.size < _ from by omega)]; assumption)
         · (rw [hb1.cell (p := ⟨w.heap.size, 4, none⟩) (show w.heap.size < _ from by omega)]; assumption)
         · (rw [hb1.cell (p := ⟨w.heap.size + 1, 0, none⟩) (show w.heap.size + 1 < _ from by omega)]; assumption)
         · (rw [hb1.cell (p := ⟨w.heap.size + 1, 1, none⟩) (show w.heap.size + 1 < _ from by omega)]; assumption)
         · (rw [hb1.cell (p := ⟨w.heap.size + 1, 2, none⟩) (show w.heap.size + 1 < _ from by omega)]; assumption)
         · (rw [hb1.cell (p := ⟨w.heap.size + 1, 3, none⟩) (show w.heap.size + 1 < _ from by omega)]; assumption)
         · (rw [hb1.cell (p := ⟨w.heap.size + 1, 4, none⟩) (show w.heap.size + 1 < _ from by omega)]; assumption)
         · (rw [hb1.cell (p := ⟨w.heap.size + 1 + 1, 0, none⟩) (show w.heap.size + 1 + 1 < _ from by omega)]; assumption)
         · (rw [hb1.cell (p := ⟨w.heap.size + 1 + 1, 1, none⟩) (show w.heap.size + 1 + 1 < _ from by omega)]; assumption)
         · (rw [hb1.cell (p := ⟨w.heap.size + 1 + 1, 2, none⟩) (show w.heap.size + 1 + 1 < _ from by omega)]; assumption)
         · (rw [hb1.cell (p := ⟨w.heap.size + 1 + 1, 3, none⟩) (show w.heap.size + 1 + 1 < _ from by omega)]; assumption)
         · (rw [hb1.cell (p := ⟨w.heap.size + 1 + 1, 4, none⟩) (show w.heap.size + 1 + 1 < _ from by omega)]; assumption)
         · exact Nat.lt_of_lt_of_le (by assumption) hb1.size
         · exact Below.trans (by assumption) (hb1.mono (show w.heap.size ≤ _ from by omega)))
      | go_keep)
    (first
      | (go_at_call 38; ((with_reducible refine (K1.out _).mono ?_); rintro e w1 ⟨rfl, hb1⟩))
      | (go_at_call 38; ((with_reducible refine (K2.out _).mono ?_); rintro e w1 ⟨rfl, hb1⟩))
      | (go_at_call 38; ((with_reducible refine (K3.out _).mono ?_); rintro e w1 ⟨rfl, hb1⟩)))
  rename_i hS
  obtain ⟨c00, c01, c02, c03, c04, c10, c11, c12, c13, c14, _, _, _, _, _, g5, g6⟩ := hS
  have HB := Lib.hid g6
  have g51 : w.heap.size + 1 < _ := Nat.lt_of_succ_lt g5
  have g50 : w.heap.size < _ := Nat.lt_of_succ_lt g51
  clear g6
  have HZ := Lib.hid (z4_start (w := w) ⟨c00, c01, c02, c03, c04⟩ ⟨c10, c11, c12, c13, c14⟩ g51 HB.out)
  have e0 := True.intro
  have e1 := True.intro
  have e2 := True.intro
  have e3 := True.intro
  have e4 := True.intro
  have z1 := True.intro
  have z2 := True.intro
  rcases F1.out with ⟨rfl, rfl⟩ | ⟨rfl, rfl⟩ | ⟨rfl, rfl⟩
  · obtain rfl : S1 = false := by have := HS.out; cases S1 <;> simp at this ⊢
    clear F1 HS
    go_wp2_with fail
    refine ((K4).out _).mono ?_
    rintro e wn ⟨rfl, hb⟩
    replace HZ := Lib.hid (HZ.out.later hb)
    clear hb c00 c01 c02 c03 c04 c10 c11 c12 c13 c14 e0 e1 e2 e3 e4 z1 z2
    obtain ⟨⟨c00, c01, c02, c03, c04⟩, ⟨c10, c11, c12, c13, c14⟩, ⟨e0, e1, e2, e3, e4⟩, z1, z2, _⟩ := HZ.out
    go_wp2_with fail
    refine ((KA).out _).mono ?_
    rintro e wn ⟨rfl, hb⟩
    replace HZ := Lib.hid (HZ.out.later hb)
    clear hb c00 c01 c02 c03 c04 c10 c11 c12 c13 c14 e0 e1 e2 e3 e4 z1 z2
    obtain ⟨⟨c00, c01, c02, c03, c04⟩, ⟨c10, c11, c12, c13, c14⟩, ⟨e0, e1, e2, e3, e4⟩, z1, z2, _⟩ := HZ.out
    go_wp2_with fail
    refine ((KM1).out _).mono ?_
    rintro e wn ⟨rfl, hb⟩
    replace HZ := Lib.hid (HZ.out.later hb)
    clear hb c00 c01 c02 c03 c04 c10 c11 c12 c13 c14 e0 e1 e2 e3 e4 z1 z2
    obtain ⟨⟨c00, c01, c02, c03, c04⟩, ⟨c10, c11, c12, c13, c14⟩, ⟨e0, e1, e2, e3, e4⟩, z1, z2, _⟩ := HZ.out
    go_wp2_with fail
    refine ((KM2).out _).mono ?_
    rintro e wn ⟨rfl, hb⟩
    replace HZ := Lib.hid (HZ.out.later hb)
    clear hb c00 c01 c02 c03 c04 c10 c11 c12 c13 c14 e0 e1 e2 e3 e4 z1 z2
    obtain ⟨⟨c00, c01, c02, c03, c04⟩, ⟨c10, c11, c12, c13, c14⟩, ⟨e0, e1, e2, e3, e4⟩, z1, z2, _⟩ := HZ.out
    cases M1
    · go_wp2
      go_ret
      exact ⟨rfl, HZ.out.2.2.2.2.2⟩
    · have KM3' := Lib.hid (KM3.out rfl)
      go_wp2_with fail
      refine ((KM3').out _).mono ?_
      rintro e wn ⟨rfl, hb⟩
      replace HZ := Lib.hid (HZ.out.later hb)
      clear hb c00 c01 c02 c03 c04 c10 c11 c12 c13 c14 e0 e1 e2 e3 e4 z1 z2
      obtain ⟨⟨c00, c01, c02, c03, c04⟩, ⟨c10, c11, c12, c13, c14⟩, ⟨e0, e1, e2, e3, e4⟩, z1, z2, _⟩ := HZ.out
      go_wp2
      go_ret
      exact ⟨rfl, HZ.out.2.2.2.2.2⟩
  · obtain rfl : S1 = true := by have := HS.out; cases S1 <;> simp at this ⊢
    clear F1 HS
    by_cases hy : 0 < R2
    · have hy' : decide (0 < R2) = true := decide_eq_true hy
      go_wp2_with fail
      refine ((K4).out _).mono ?_
      rintro e wn ⟨rfl, hb⟩
      replace HZ := Lib.hid (HZ.out.later hb)
      clear hb c00 c01 c02 c03 c04 c10 c11 c12 c13 c14 e0 e1 e2 e3 e4 z1 z2
      obtain ⟨⟨c00, c01, c02, c03, c04⟩, ⟨c10, c11, c12, c13, c14⟩, ⟨e0, e1, e2, e3, e4⟩, z1, z2, _⟩ := HZ.out
      go_wp2_with fail
      refine ((KA).out _).mono ?_
      rintro e wn ⟨rfl, hb⟩
      replace HZ := Lib.hid (HZ.out.later hb)
      clear hb c00 c01 c02 c03 c04 c10 c11 c12 c13 c14 e0 e1 e2 e3 e4 z1 z2
      obtain ⟨⟨c00, c01, c02, c03, c04⟩, ⟨c10, c11, c12, c13, c14⟩, ⟨e0, e1, e2, e3, e4⟩, z1, z2, _⟩ := HZ.out
      go_wp2_with fail
      refine ((KM1).out _).mono ?_
      rintro e wn ⟨rfl, hb⟩
      replace HZ := Lib.hid (HZ.out.later hb)
      clear hb c00 c01 c02 c03 c04 c10 c11 c12 c13 c14 e0 e1 e2 e3 e4 z1 z2
      obtain ⟨⟨c00, c01, c02, c03, c04⟩, ⟨c10, c11, c12, c13, c14⟩, ⟨e0, e1, e2, e3, e4⟩, z1, z2, _⟩ := HZ.out
      go_wp2_with fail
      refine ((KM2).out _).mono ?_
      rintro e wn ⟨rfl, hb⟩
      replace HZ := Lib.hid (HZ.out.later hb)
      clear hb c00 c01 c02 c03 c04 c10 c11 c12 c13 c14 e0 e1 e2 e3 e4 z1 z2
      obtain ⟨⟨c00, c01, c02, c03, c04⟩, ⟨c10, c11, c12, c13, c14⟩, ⟨e0, e1, e2, e3, e4⟩, z1, z2, _⟩ := HZ.out
      cases M1
      · go_wp2
        go_ret
        exact ⟨rfl, HZ.out.2.2.2.2.2⟩
      · have KM3' := Lib.hid (KM3.out rfl)
        go_wp2_with fail
        refine ((KM3').out _).mono ?_
        rintro e wn ⟨rfl, hb⟩
        replace HZ := Lib.hid (HZ.out.later hb)
        clear hb c00 c01 c02 c03 c04 c10 c11 c12 c13 c14 e0 e1 e2 e3 e4 z1 z2
        obtain ⟨⟨c00, c01, c02, c03, c04⟩, ⟨c10, c11, c12, c13, c14⟩, ⟨e0, e1, e2, e3, e4⟩, z1, z2, _⟩ := HZ.out
        go_wp2
        go_ret
        exact ⟨rfl, HZ.out.2.2.2.2.2⟩
    · have hz : ¬ 0 < R3 := by have := HT.out (by decide) (by omega); omega
      have hy' : decide (0 < R2) = false := decide_eq_false hy
      have hz' : R3 ≤ 0 := by omega
      have hz2 : decide (R3 ≤ 0) = true := decide_eq_true hz'
      go_wp2_with fail
      refine ((K4).out _).mono ?_
      rintro e wn ⟨rfl, hb⟩
      replace HZ := Lib.hid (HZ.out.later hb)
      clear hb c00 c01 c02 c03 c04 c10 c11 c12 c13 c14 e0 e1 e2 e3 e4 z1 z2
      obtain ⟨⟨c00, c01, c02, c03, c04⟩, ⟨c10, c11, c12, c13, c14⟩, ⟨e0, e1, e2, e3, e4⟩, z1, z2, _⟩ := HZ.out
      go_wp2_with fail
      refine ((KA).out _).mono ?_
      rintro e wn ⟨rfl, hb⟩
      replace HZ := Lib.hid (HZ.out.later hb)
      clear hb c00 c01 c02 c03 c04 c10 c11 c12 c13 c14 e0 e1 e2 e3 e4 z1 z2
      obtain ⟨⟨c00, c01, c02, c03, c04⟩, ⟨c10, c11, c12, c13, c14⟩, ⟨e0, e1, e2, e3, e4⟩, z1, z2, _⟩ := HZ.out
      go_wp2_with fail
      refine ((KM1).out _).mono ?_
      rintro e wn ⟨rfl, hb⟩
      replace HZ := Lib.hid (HZ.out.later hb)
      clear hb c00 c01 c02 c03 c04 c10 c11 c12 c13 c14 e0 e1 e2 e3 e4 z1 z2
      obtain ⟨⟨c00, c01, c02, c03, c04⟩, ⟨c10, c11, c12, c13, c14⟩, ⟨e0, e1, e2, e3, e4⟩, z1, z2, _⟩ := HZ.out
      go_wp2_with fail
      refine ((KM2).out _).mono ?_
      rintro e wn ⟨rfl, hb⟩
      replace HZ := Lib.hid (HZ.out.later hb)
      clear hb c00 c01 c02 c03 c04 c10 c11 c12 c13 c14 e0 e1 e2 e3 e4 z1 z2
      obtain ⟨⟨c00, c01, c02, c03, c04⟩, ⟨c10, c11, c12, c13, c14⟩, ⟨e0, e1, e2, e3, e4⟩, z1, z2, _⟩ := HZ.out
      cases M1
      · go_wp2
        go_ret
        exact ⟨rfl, HZ.out.2.2.2.2.2⟩
      · have KM3' := Lib.hid (KM3.out rfl)
        go_wp2_with fail
        refine ((KM3').out _).mono ?_
        rintro e wn ⟨rfl, hb⟩
        replace HZ := Lib.hid (HZ.out.later hb)
        clear hb c00 c01 c02 c03 c04 c10 c11 c12 c13 c14 e0 e1 e2 e3 e4 z1 z2
        obtain ⟨⟨c00, c01, c02, c03, c04⟩, ⟨c10, c11, c12, c13, c14⟩, ⟨e0, e1, e2, e3, e4⟩, z1, z2, _⟩ := HZ.out
        go_wp2
        go_ret
        exact ⟨rfl, HZ.out.2.2.2.2.2⟩
  · obtain rfl : S1 = false := by have := HS.out; cases S1 <;> simp at this ⊢
    clear F1 HS
    by_cases hy : 0 < R2
    · have hy' : decide (0 < R2) = true := decide_eq_true hy
      go_wp2_with fail
      refine ((K4).out _).mono ?_
      rintro e wn ⟨rfl, hb⟩
      replace HZ := Lib.hid (HZ.out.later hb)
      clear hb c00 c01 c02 c03 c04 c10 c11 c12 c13 c14 e0 e1 e2 e3 e4 z1 z2
      obtain ⟨⟨c00, c01, c02, c03, c04⟩, ⟨c10, c11, c12, c13, c14⟩, ⟨e0, e1, e2, e3, e4⟩, z1, z2, _⟩ := HZ.out
      go_wp2_with fail
      refine ((KA).out _).mono ?_
      rintro e wn ⟨rfl, hb⟩
      replace HZ := Lib.hid (HZ.out.later hb)
      clear hb c00 c01 c02 c03 c04 c10 c11 c12 c13 c14 e0 e1 e2 e3 e4 z1 z2
      obtain ⟨⟨c00, c01, c02, c03, c04⟩, ⟨c10, c11, c12, c13, c14⟩, ⟨e0, e1, e2, e3, e4⟩, z1, z2, _⟩ := HZ.out
      go_wp2_with fail
      refine ((KM1).out _).mono ?_
      rintro e wn ⟨rfl, hb⟩
      replace HZ := Lib.hid (HZ.out.later hb)
      clear hb c00 c01 c02 c03 c04 c10 c11 c12 c13 c14 e0 e1 e2 e3 e4 z1 z2
      obtain ⟨⟨c00, c01, c02, c03, c04⟩, ⟨c10, c11, c12, c13, c14⟩, ⟨e0, e1, e2, e3, e4⟩, z1, z2, _⟩ := HZ.out
      go_wp2_with fail
      refine ((KM2).out _).mono ?_
      rintro e wn ⟨rfl, hb⟩
      replace HZ := Lib.hid (HZ.out.later hb)
      clear hb c00 c01 c02 c03 c04 c10 c11 c12 c13 c14 e0 e1 e2 e3 e4 z1 z2
      obtain ⟨⟨c00, c01, c02, c03, c04⟩, ⟨c10, c11, c12, c13, c14⟩, ⟨e0, e1, e2, e3, e4⟩, z1, z2, _⟩ := HZ.out
      cases M1
      · go_wp2
        go_ret
        exact ⟨rfl, HZ.out.2.2.2.2.2⟩
      · have KM3' := Lib.hid (KM3.out rfl)
        go_wp2_with fail
        refine ((KM3').out _).mono ?_
        rintro e wn ⟨rfl, hb⟩
        replace HZ := Lib.hid (HZ.out.later hb)
        clear hb c00 c01 c02 c03 c04 c10 c11 c12 c13 c14 e0 e1 e2 e3 e4 z1 z2
        obtain ⟨⟨c00, c01, c02, c03, c04⟩, ⟨c10, c11, c12, c13, c14⟩, ⟨e0, e1, e2, e3, e4⟩, z1, z2, _⟩ := HZ.out
        go_wp2
        go_ret
        exact ⟨rfl, HZ.out.2.2.2.2.2⟩
    · have hz : ¬ 0 < R3 := by have := HT.out (by decide) (by omega); omega
      have hy' : decide (0 < R2) = false := decide_eq_false hy
      have hz' : R3 ≤ 0 := by omega
      have hz2 : decide (R3 ≤ 0) = true := decide_eq_true hz'
      go_wp2_with fail
      refine ((K4).out _).mono ?_
      rintro e wn ⟨rfl, hb⟩
      replace HZ := Lib.hid (HZ.out.later hb)
      clear hb c00 c01 c02 c03 c04 c10 c11 c12 c13 c14 e0 e1 e2 e3 e4 z1 z2
      obtain ⟨⟨c00, c01, c02, c03, c04⟩, ⟨c10, c11, c12, c13, c14⟩, ⟨e0, e1, e2, e3, e4⟩, z1, z2, _⟩ := HZ.out
      go_wp2_with fail
      refine ((KA).out _).mono ?_
      rintro e wn ⟨rfl, hb⟩
      replace HZ := Lib.hid (HZ.out.later hb)
      clear hb c00 c01 c02 c03 c04 c10 c11 c12 c13 c14 e0 e1 e2 e3 e4 z1 z2
      obtain ⟨⟨c00, c01, c02, c03, c04⟩, ⟨c10, c11, c12, c13, c14⟩, ⟨e0, e1, e2, e3, e4⟩, z1, z2, _⟩ := HZ.out
      go_wp2_with fail
      refine ((KM1).out _).mono ?_
      rintro e wn ⟨rfl, hb⟩
      replace HZ := Lib.hid (HZ.out.later hb)
      clear hb c00 c01 c02 c03 c04 c10 c11 c12 c13 c14 e0 e1 e2 e3 e4 z1 z2
      obtain ⟨⟨c00, c01, c02, c03, c04⟩, ⟨c10, c11, c12, c13, c14⟩, ⟨e0, e1, e2, e3, e4⟩, z1, z2, _⟩ := HZ.out
      go_wp2_with fail
      refine ((KM2).out _).mono ?_
      rintro e wn ⟨rfl, hb⟩
      replace HZ := Lib.hid (HZ.out.later hb)
      clear hb c00 c01 c02 c03 c04 c10 c11 c12 c13 c14 e0 e1 e2 e3 e4 z1 z2
      obtain ⟨⟨c00, c01, c02, c03, c04⟩, ⟨c10, c11, c12, c13, c14⟩, ⟨e0, e1, e2, e3, e4⟩, z1, z2, _⟩ := HZ.out
      cases M1
      · go_wp2
        go_ret
        exact ⟨rfl, HZ.out.2.2.2.2.2⟩
      · have KM3' := Lib.hid (KM3.out rfl)
        go_wp2_with fail
        refine ((KM3').out _).mono ?_
        rintro e wn ⟨rfl, hb⟩
        replace HZ := Lib.hid (HZ.out.later hb)
        clear hb c00 c01 c02 c03 c04 c10 c11 c12 c13 c14 e0 e1 e2 e3 e4 z1 z2
        obtain ⟨⟨c00, c01, c02, c03, c04⟩, ⟨c10, c11, c12, c13, c14⟩, ⟨e0, e1, e2, e3, e4⟩, z1, z2, _⟩ := HZ.out
        go_wp2
        go_ret
        exact ⟨rfl, HZ.out.2.2.2.2.2⟩
end Go.Proofs.YtmflpjgedoopoaaDoor
