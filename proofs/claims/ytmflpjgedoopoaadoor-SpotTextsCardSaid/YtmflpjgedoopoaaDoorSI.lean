/- Texts of places are read; awake. -/
import Derived.Test.YtmflpjgedoopoaaDoorSH
import Derived.Test.YtmflpjgedoopoaaDoorVF
namespace Go.Proofs.YtmflpjgedoopoaaDoor
open Go.RowKit

theorem num_dg (n m : Nat) (h : n ≤ m) : Num (dg n) m n := ⟨(W.dec_good n).1, (W.dec_good n).2.1, h⟩
theorem dec_text (a b c d p : Nat) (ha : a < 256) (hb : b < 256) (hc : c < 256) (hd : d < 256) (hp : p < 65536) (h1 : 1 ≤ p) : Dec (textN a b c d p) (xv a b c d) p := by
  refine ⟨dg a, dg b ++ 46 :: (dg c ++ 46 :: (dg d ++ 58 :: dg p)), ?_, num_dg a 255 (by omega), dg b, dg c ++ 46 :: (dg d ++ 58 :: dg p), rfl, num_dg b 255 (by omega), dg c, dg d ++ 58 :: dg p, rfl, num_dg c 255 (by omega), dg d, dg p, rfl, num_dg d 255 (by omega), num_dg p 65535 (by omega), h1⟩
  unfold textN joinN
  simp [sepAt]
theorem dec_unique {l : List UInt8} {xs ys : Nat → Nat} {p q : Nat} (h1 : Dec l xs p) (h2 : Dec l ys q) : p = q ∧ ∀ j, j < 4 → xs j = ys j := by
  obtain ⟨h, h3⟩ := decT_unique 4 0 l xs ys p q h1 h2
  exact ⟨h, fun j hj => h3 j (by omega) (by omega)⟩
theorem ParseR.of_dec {l : List UInt8} {w : World} {e : Ending} {w' : World} (h : ParseR l w e w') {a b c d p : Nat} (hd : Dec l (xv a b c d) p) :
    e = .returned (.tuple #[plc a b c d p, .int .i64 0]) ∧ Below w.heap.size w w' := by
  obtain ⟨hb, ⟨xs, port, h1, rfl⟩ | ⟨hn, _⟩⟩ := h
  · obtain ⟨rfl, h2⟩ := dec_unique h1 hd
    have e0 : xs 0 = a := h2 0 (by omega)
    have e1 : xs 1 = b := h2 1 (by omega)
    have e2 : xs 2 = c := h2 2 (by omega)
    have e3 : xs 3 = d := h2 3 (by omega)
    rw [e0, e1, e2, e3]
    exact ⟨rfl, hb⟩
  · exact absurd ⟨_, _, hd⟩ hn
theorem text_example : str (textN 127 0 0 1 80) = ⟨#[49, 50, 55, 46, 48, 46, 48, 46, 49, 58, 56, 48]⟩ := by
  have e : textN 127 0 0 1 80 = [49, 50, 55, 46, 48, 46, 48, 46, 49, 58, 56, 48] := by
    unfold textN joinN dg
    rw [W.dec_big 127 (by omega), W.dec_big (127 / 10) (by omega), W.dec_small (127 / 10 / 10) (by omega), W.dec_small 0 (by omega), W.dec_big 80 (by omega), W.dec_small (80 / 10) (by omega)]
    rfl
  rw [e]; rfl

theorem wawake_any (w : World) : Calls Tryd.prog 51 #[] w fun e w' => e = .returned (.bool true) ∧ Below w.heap.size w w' := by
  go_enter Tryd.func51, Tryd.ntmps51
  go_wp2_with (first | (go_at_call 68; go_must (refine (W.awake_any _).mono ?_); rintro e w1 ⟨rfl, hb1⟩))
  go_ret
  exact ⟨rfl, hb1⟩
set_option maxRecDepth 1000000 in
set_option maxHeartbeats 4000000 in
theorem sawake_any (w : World) (hl : Lay w) : Calls Tryd.prog 28 #[] w fun e w' => e = .returned (.bool true) ∧ Below w.heap.size w w' := by
  have HLAY := Lib.hid hl
  clear hl
  have hsz : (⟨#[49, 50, 55, 46, 48, 46, 48, 46, 49, 58, 56, 48]⟩ : ByteArray).size ≤ 100 := by decide
  have K1 : Hid (Calls Tryd.prog 29 #[.string ⟨#[49, 50, 55, 46, 48, 46, 48, 46, 49, 58, 56, 48]⟩] w fun e w' => e = .returned (.tuple #[plc 127 0 0 1 80, .int .i64 0]) ∧ Below w.heap.size w w') := Lib.hid (by
    refine (parse_any _ hsz w HLAY.out).mono ?_
    intro e w' h
    refine h.of_dec ?_
    have := dec_text 127 0 0 1 80 (by omega) (by omega) (by omega) (by omega) (by omega) (by omega)
    rw [← text_example, str_data]
    exact this)
  have K2 := Lib.hid (wawake_any)
  have K3 : Hid (∀ w1, Below w.heap.size w w1 → Calls Tryd.prog 31 #[plc 127 0 0 1 80] w1 fun e w' => e = .returned (.string ⟨#[49, 50, 55, 46, 48, 46, 48, 46, 49, 58, 56, 48]⟩) ∧ Below w1.heap.size w1 w') := Lib.hid (fun w1 h => by
    rw [← text_example]
    exact text_any 127 0 0 1 80 (by omega) (by omega) (by omega) (by omega) (by omega) w1 (HLAY.out.later h))
  clear hsz
  go_enter Tryd.func28, Tryd.ntmps28
  go_wp2_with fail
  refine (K1.out).mono ?_
  rintro e w1 ⟨rfl, hb1⟩
  have HB1 := Lib.hid ((hb1.trans (((Below.refl _ _).alloc (Nat.le_refl w1.heap.size) (.cells #[.int .u8 127, .int .u8 0, .int .u8 0, .int .u8 1, .int .u16 80] 36)).mono hb1.size)))
  clear hb1
  unfold plc at *
  go_wp2_with fail
  refine (K2.out _).mono ?_
  rintro e w2 ⟨rfl, hb2⟩
  have HB2 := Lib.hid (HB1.out.trans (hb2.mono HB1.out.size))
  have hblk : Blk w1.heap.size 127 0 0 1 80 w2 := (hb2.block _ (by simp)).trans (heap_alloc_new w1 _)
  obtain ⟨⟨c0, c1, c2, c3, c4⟩, _⟩ := hblk.cells
  replace c0 : w2.cell? ⟨w1.heap.size, 0, none⟩ = some (.int .u8 127) := c0
  replace c1 : w2.cell? ⟨w1.heap.size, 1, none⟩ = some (.int .u8 0) := c1
  replace c2 : w2.cell? ⟨w1.heap.size, 2, none⟩ = some (.int .u8 0) := c2
  replace c3 : w2.cell? ⟨w1.heap.size, 3, none⟩ = some (.int .u8 1) := c3
  replace c4 : w2.cell? ⟨w1.heap.size, 4, none⟩ = some (.int .u16 80) := c4
  clear hb2 hblk
  go_wp2_with fail
  refine (K3.out _ HB2.out).mono ?_
  rintro e w3 ⟨rfl, hb3⟩
  have HB3 := Lib.hid (HB2.out.trans (hb3.mono HB2.out.size))
  clear hb3
  go_wp2
  go_ret
  exact ⟨rfl, HB3.out⟩
end Go.Proofs.YtmflpjgedoopoaaDoor
