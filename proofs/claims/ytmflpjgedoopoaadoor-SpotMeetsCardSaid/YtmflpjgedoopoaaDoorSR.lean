/- Whether places meet, by definition, walked. -/
import Derived.Test.YtmflpjgedoopoaaDoorSC
namespace Go.Proofs.YtmflpjgedoopoaaDoor
open Go.RowKit

theorem eq_ways (x y : Nat) : (x = y ∧ ((x : Int) == (y : Int)) = true ∧ decide (x = y) = true) ∨ (x ≠ y ∧ ((x : Int) == (y : Int)) = false ∧ decide (x = y) = false) := by
  by_cases h : x = y
  · subst h; exact Or.inl ⟨rfl, by simp, by simp⟩
  · exact Or.inr ⟨h, neq_int h, decide_eq_false h⟩
def Z2 (a b c d p a2 b2 c2 d2 p2 : Nat) (w W : World) : Prop := PlAt w.heap.size a b c d p W ∧ PlAt (w.heap.size + 1) a2 b2 c2 d2 p2 W ∧ w.heap.size + 1 < W.heap.size ∧ Below w.heap.size w W
theorem Z2.later {a b c d p a2 b2 c2 d2 p2 : Nat} {w W W' : World} (h : Z2 a b c d p a2 b2 c2 d2 p2 w W) (hb : Below W.heap.size W W') : Z2 a b c d p a2 b2 c2 d2 p2 w W' := by
  obtain ⟨h1, h2, h4, h6⟩ := h
  exact ⟨h1.later (by omega) hb, h2.later h4 hb, Nat.lt_of_lt_of_le h4 hb.size, h6.trans (hb.mono h6.size)⟩
theorem z2_start (a b c d p a2 b2 c2 d2 p2 : Nat) (w : World) (t : TypeId) : Z2 a b c d p a2 b2 c2 d2 p2 w ((w.alloc (.cells #[.int .u8 a, .int .u8 b, .int .u8 c, .int .u8 d, .int .u16 p] t)).alloc (.cells #[.int .u8 a2, .int .u8 b2, .int .u8 c2, .int .u8 d2, .int .u16 p2] t)) := by
  refine ⟨?_, ?_, by simp, ((Below.refl _ _).alloc (Nat.le_refl _) _).alloc (by simp) _⟩
  · refine ⟨?_, ?_, ?_, ?_, ?_⟩ <;> (rw [World.cell?_alloc_past _ _ _ (by simp), World.cell?_alloc_new]; rfl)
  · refine ⟨?_, ?_, ?_, ?_, ?_⟩ <;> (rw [World.cell?_alloc_at _ _ _ _ (by simp)]; rfl)

set_option maxRecDepth 1000000 in
set_option maxHeartbeats 4000000 in
theorem rmeet_any (a b c d p a2 b2 c2 d2 p2 : Nat) (w : World) :
    Calls Tryd.prog 37 #[plc a b c d p, plc a2 b2 c2 d2 p2] w fun e w' => e = .returned (.bool (meetN a b c d p a2 b2 c2 d2 p2)) ∧ Below w.heap.size w w' := by
  have K1 := Lib.hid (rany_any a b c d p)
  have K2 := Lib.hid (rany_any a2 b2 c2 d2 p2)
  have HR : Hid (meetN a b c d p a2 b2 c2 d2 p2 = (decide (p = p2) && ((decide (a = a2) && (decide (b = b2) && (decide (c = c2) && decide (d = d2)))) || anyN a b c d || anyN a2 b2 c2 d2))) := Lib.hid (by unfold meetN; simp only [Bool.decide_and])
  generalize meetN a b c d p a2 b2 c2 d2 p2 = R at *
  generalize anyN a b c d = v2 at *
  generalize anyN a2 b2 c2 d2 = v3 at *
  have HZ := Lib.hid (z2_start a b c d p a2 b2 c2 d2 p2 w 39)
  unfold plc at *
  rcases eq_ways p p2 with ⟨-, hp, dp⟩ | ⟨-, hp, dp⟩ <;> rw [dp] at HR <;> clear dp
  · go_enter Tryd.func37, Tryd.ntmps37
    go_wp2_with fail
    generalize ((w.alloc (.cells #[.int .u8 a, .int .u8 b, .int .u8 c, .int .u8 d, .int .u16 p] 39)).alloc (.cells #[.int .u8 a2, .int .u8 b2, .int .u8 c2, .int .u8 d2, .int .u16 p2] 39)) = W at *
    refine (K1.out _).mono ?_
    rintro e w1 ⟨rfl, hb⟩
    replace HZ := Lib.hid (HZ.out.later hb)
    obtain ⟨⟨c00, c01, c02, c03, c04⟩, ⟨c10, c11, c12, c13, c14⟩, _, _⟩ := HZ.out
    clear hb
    cases v2
    · go_wp2_with fail
      refine (K2.out _).mono ?_
      rintro e w2 ⟨rfl, hb⟩
      replace HZ := Lib.hid (HZ.out.later hb)
      clear hb c00 c01 c02 c03 c04 c10 c11 c12 c13 c14
      obtain ⟨⟨c00, c01, c02, c03, c04⟩, ⟨c10, c11, c12, c13, c14⟩, _, _⟩ := HZ.out
      cases v3
      · rcases eq_ways a a2 with ⟨-, h0, d0⟩ | ⟨-, h0, d0⟩ <;> rw [d0] at HR <;> clear d0
        · rcases eq_ways b b2 with ⟨-, h1, d1⟩ | ⟨-, h1, d1⟩ <;> rw [d1] at HR <;> clear d1
          · rcases eq_ways c c2 with ⟨-, h2, d2'⟩ | ⟨-, h2, d2'⟩ <;> rw [d2'] at HR <;> clear d2'
            · rcases eq_ways d d2 with ⟨-, h3, d3⟩ | ⟨-, h3, d3⟩ <;> rw [d3] at HR <;> clear d3
              all_goals
                go_wp2
                go_ret
                exact ⟨ret_bool (by rw [HR.out]; simp), HZ.out.2.2.2⟩
            · go_wp2
              go_ret
              exact ⟨ret_bool (by rw [HR.out]; simp), HZ.out.2.2.2⟩
          · go_wp2
            go_ret
            exact ⟨ret_bool (by rw [HR.out]; simp), HZ.out.2.2.2⟩
        · go_wp2
          go_ret
          exact ⟨ret_bool (by rw [HR.out]; simp), HZ.out.2.2.2⟩
      · go_wp2
        go_ret
        exact ⟨ret_bool (by rw [HR.out]; simp), HZ.out.2.2.2⟩
    · go_wp2
      go_ret
      exact ⟨ret_bool (by rw [HR.out]; simp), HZ.out.2.2.2⟩
  · go_enter Tryd.func37, Tryd.ntmps37
    go_wp2
    go_ret
    exact ⟨ret_bool (by rw [HR.out]; simp), HZ.out.2.2.2⟩
end Go.Proofs.YtmflpjgedoopoaaDoor
