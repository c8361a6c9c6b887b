/- Which place is ahead. -/
import Derived.Test.YtmflpjgedoopoaaDoorSB
namespace Go.Proofs.YtmflpjgedoopoaaDoor
open Go.RowKit

/-- A block's cells are a place's. -/
def PlAt (g a b c d p : Nat) (w : World) : Prop :=
  w.cell? ⟨g, 0, none⟩ = some (.int .u8 a) ∧ w.cell? ⟨g, 1, none⟩ = some (.int .u8 b) ∧ w.cell? ⟨g, 2, none⟩ = some (.int .u8 c) ∧ w.cell? ⟨g, 3, none⟩ = some (.int .u8 d) ∧ w.cell? ⟨g, 4, none⟩ = some (.int .u16 p)
theorem PlAt.later {g a b c d p : Nat} {w w' : World} (h : PlAt g a b c d p w) (hg : g < w.heap.size) (hb : Below w.heap.size w w') : PlAt g a b c d p w' := by
  obtain ⟨h0, h1, h2, h3, h4⟩ := h
  exact ⟨by rw [hb.cell (p := ⟨g, 0, none⟩) hg]; exact h0, by rw [hb.cell (p := ⟨g, 1, none⟩) hg]; exact h1, by rw [hb.cell (p := ⟨g, 2, none⟩) hg]; exact h2, by rw [hb.cell (p := ⟨g, 3, none⟩) hg]; exact h3, by rw [hb.cell (p := ⟨g, 4, none⟩) hg]; exact h4⟩
def cmpN (a b c d p a2 b2 c2 d2 p2 : Nat) : Int := Lib.compareBytes (bytesN a b c d p) (bytesN a2 b2 c2 d2 p2)

set_option maxRecDepth 1000000 in
set_option maxHeartbeats 1000000 in
theorem cmp_any (a b c d p a2 b2 c2 d2 p2 : Nat) (ha : a < 256) (hb : b < 256) (hc : c < 256) (hd : d < 256) (hp : p < 65536) (ha2 : a2 < 256) (hb2 : b2 < 256) (hc2 : c2 < 256) (hd2 : d2 < 256) (hp2 : p2 < 65536) (w : World) :
    Calls Tryd.prog 38 #[plc a b c d p, plc a2 b2 c2 d2 p2] w fun e w' => e = .returned (.int .i64 (cmpN a b c d p a2 b2 c2 d2 p2)) ∧ Below w.heap.size w w' := by
  have K1 := Lib.hid (bytes_any a b c d p ha hb hc hd hp)
  have K2 := Lib.hid (bytes_any a2 b2 c2 d2 p2 ha2 hb2 hc2 hd2 hp2)
  have K3 : Hid (∀ w, Calls Tryd.prog 61 #[.string (str (bytesN a b c d p)), .string (str (bytesN a2 b2 c2 d2 p2))] w fun e w' => e = .returned (.int .i64 (cmpN a b c d p a2 b2 c2 d2 p2)) ∧ w = w') := Lib.hid (fun w => (Tryd.strings_Compare _ _ w).mono fun _ _ h => ⟨h.1, h.2.symm⟩)
  generalize cmpN a b c d p a2 b2 c2 d2 p2 = R at *
  generalize str (bytesN a b c d p) = z1 at *
  generalize str (bytesN a2 b2 c2 d2 p2) = z2 at *
  clear ha hb hc hd hp ha2 hb2 hc2 hd2 hp2
  unfold plc at *
  have P1 : PlAt w.heap.size a b c d p ((w.alloc (.cells #[.int .u8 a, .int .u8 b, .int .u8 c, .int .u8 d, .int .u16 p] 36)).alloc (.cells #[.int .u8 a2, .int .u8 b2, .int .u8 c2, .int .u8 d2, .int .u16 p2] 36)) := by
    refine ⟨?_, ?_, ?_, ?_, ?_⟩ <;> (rw [World.cell?_alloc_past _ _ _ (by simp), World.cell?_alloc_new]; rfl)
  have P2 : PlAt (w.heap.size + 1) a2 b2 c2 d2 p2 ((w.alloc (.cells #[.int .u8 a, .int .u8 b, .int .u8 c, .int .u8 d, .int .u16 p] 36)).alloc (.cells #[.int .u8 a2, .int .u8 b2, .int .u8 c2, .int .u8 d2, .int .u16 p2] 36)) := by
    refine ⟨?_, ?_, ?_, ?_, ?_⟩ <;> (rw [World.cell?_alloc_at _ _ _ _ (by simp)]; rfl)
  have g5 : w.heap.size + 1 < ((w.alloc (.cells #[.int .u8 a, .int .u8 b, .int .u8 c, .int .u8 d, .int .u16 p] 36)).alloc (.cells #[.int .u8 a2, .int .u8 b2, .int .u8 c2, .int .u8 d2, .int .u16 p2] 36)).heap.size := by simp
  have g6 : Below w.heap.size w ((w.alloc (.cells #[.int .u8 a, .int .u8 b, .int .u8 c, .int .u8 d, .int .u16 p] 36)).alloc (.cells #[.int .u8 a2, .int .u8 b2, .int .u8 c2, .int .u8 d2, .int .u16 p2] 36)) := ((Below.refl _ _).alloc (Nat.le_refl _) _).alloc (by simp) _
  obtain ⟨p0, p1, p2', p3, p4⟩ := P1
  obtain ⟨q0, q1, q2, q3, q4⟩ := P2
  go_enter Tryd.func38, Tryd.ntmps38
  go_wp2
  generalize ((w.alloc (.cells #[.int .u8 a, .int .u8 b, .int .u8 c, .int .u8 d, .int .u16 p] 36)).alloc (.cells #[.int .u8 a2, .int .u8 b2, .int .u8 c2, .int .u8 d2, .int .u16 p2] 36)) = W at *
  go_region_held3 (fun w' => w'.cell? ⟨w.heap.size, 0, none⟩ = some (.int .u8 a) ∧ w'.cell? ⟨w.heap.size, 1, none⟩ = some (.int .u8 b) ∧ w'.cell? ⟨w.heap.size, 2, none⟩ = some (.int .u8 c) ∧ w'.cell? ⟨w.heap.size, 3, none⟩ = some (.int .u8 d) ∧ w'.cell? ⟨w.heap.size, 4, none⟩ = some (.int .u16 p) ∧ w'.cell? ⟨w.heap.size + 1, 0, none⟩ = some (.int .u8 a2) ∧ w'.cell? ⟨w.heap.size + 1, 1, none⟩ = some (.int .u8 b2) ∧ w'.cell? ⟨w.heap.size + 1, 2, none⟩ = some (.int .u8 c2) ∧ w'.cell? ⟨w.heap.size + 1, 3, none⟩ = some (.int .u8 d2) ∧ w'.cell? ⟨w.heap.size + 1, 4, none⟩ = some (.int .u16 p2) ∧ w.heap.size + 1 < w'.heap.size ∧ Below w.heap.size w w')
    (first
      | exact ⟨p0, p1, p2', p3, p4, q0, q1, q2, q3, q4, g5, g6.drew⟩
      | (go_split_ands
         refine ⟨?_, ?_, ?_, ?_, ?_, ?_, ?_, ?_, ?_, ?_, ?_, ?_⟩
         · (rw [hb1.cell (p := ⟨w.heap.size, 0, none⟩) (show w.heap.size < _ from by omega)]; assumption)
         · (rw [hb1.cell (p := ⟨w.heap.size, 1, none⟩) (show w.heap.size < _ from by omega)]; assumption)
         · (rw [hb1.cell (p := ⟨w.heap.size, 2, none⟩) (show w.heap.size < _ from by omega)]; assumption)
         · (rw [hb1.cell (p := ⟨w.heap.size, 3, none⟩) (show w.heap.size < _ from by omega)]; assumption)
         · (rw [hb1.cell (p := ⟨w.heap.size, 4, none⟩) (show w.heap.size < _ from by omega)]; assumption)
         · (rw [hb1.cell (p := ⟨w.heap.size + 1, 0, none⟩) (show w.heap.size + 1 < _ from by omega)]; assumption)
         · (rw [hb1.cell (p := ⟨w.heap.size + 1, 1, none⟩) (show w.heap.size + 1 < _ from by omega)]; assumption)
         · (rw [hb1.cell (p := ⟨w.heap.size + 1, 2, none⟩) (show w.heap.size + 1 < _ from by omega)]; assumption)
         · (rw [hb1.cell (p := ⟨w.heap.size + 1, 3, none⟩) (show w.heap.size + 1 < _ from by omega)]; assumption)
         · (rw [hb1.cell (p := ⟨w.heap.size + 1, 4, none⟩) (show w.heap.size + 1 < _ from by omega)]; assumption)
         · exact Nat.lt_of_lt_of_le (by assumption) hb1.size
         · exact Below.trans (by assumption) (hb1.mono (by omega)))
      | go_keep)
    (first
      | (go_at_call 33; ((with_reducible refine (K1.out _).mono ?_); rintro e w1 ⟨rfl, hb1⟩))
      | (go_at_call 33; ((with_reducible refine (K2.out _).mono ?_); rintro e w1 ⟨rfl, hb1⟩))
      | (go_at_call 61; ((with_reducible refine (K3.out _).mono ?_); rintro e w1 ⟨rfl, rfl⟩)))
  all_goals go_wp2
  all_goals go_ret
  all_goals
    refine ⟨rfl, ?_⟩
    rename_i hS
    exact hS.2.2.2.2.2.2.2.2.2.2.2
end Go.Proofs.YtmflpjgedoopoaaDoor
