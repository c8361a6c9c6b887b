/- spot.Of, walked. -/
import Derived.Test.YtmflpjgedoopoaaDoorSN
import Derived.Test.YtmflpjgedoopoaaDoorVJ
namespace Go.Proofs.YtmflpjgedoopoaaDoor
open Go.RowKit

/-- The port that a text's bytes tell; whether the text tells a place. -/
def portB (s : ByteArray) : Nat := byt s 4 * 256 + byt s 5
def OfR (s : ByteArray) (w : World) (e : Ending) (w' : World) : Prop :=
  Below w.heap.size w w' ∧ ((s.size = 6 ∧ portB s ≠ 0 ∧ e = .returned (.tuple #[plc (byt s 0) (byt s 1) (byt s 2) (byt s 3) (portB s), .int .i64 0])) ∨ (¬ (s.size = 6 ∧ portB s ≠ 0) ∧ e = .returned (.tuple #[plc 0 0 0 0 0, .int .i64 4])))

/-- At 'form'. -/
def OfJ (s : ByteArray) (w : World) (a' : Act) (w' : World) : Prop :=
  (¬ (s.size = 6 ∧ portB s ≠ 0)) ∧ Below w.heap.size w w' ∧ Blk w.heap.size 0 0 0 0 0 w' ∧ ∃ (u0 u1 u3 u4 u5 u6 u7 u8 u9 u10 u11 u12 u13 u14 u15 u16 u17 u18 u19 u20 u21 u22 u23 u24 u25 : Value), a' = { tmps := #[u0, u1, (.pointer (some ⟨w.heap.size, 0, none⟩)), u3, u4, u5, u6, u7, u8, u9, u10, u11, u12, u13, u14, u15, u16, u17, u18, u19, u20, u21, u22, u23, u24, u25], defers := [] }
theorem get_rest (s : ByteArray) (hs : s.size = 6) (w : World) : Calls Tryd.prog 58 #[.string (s.extract 4 6)] w fun e w' => e = .returned (.tuple #[.int .u64 (portB s : Nat), .int .i64 0]) ∧ w = w' := by
  obtain ⟨c0, c1, c2, c3, c4, c5, rfl⟩ := six s hs
  have e : (⟨#[c0, c1, c2, c3, c4, c5]⟩ : ByteArray).extract 4 6 = ⟨#[c4, c5]⟩ := by
    apply ByteArray.ext
    simp [ByteArray.data_extract]
  rw [e]
  exact get_two c4 c5 w

set_option maxRecDepth 1000000 in
set_option maxHeartbeats 4000000 in
theorem of_any (s : ByteArray) (w : World) : Calls Tryd.prog 32 #[.string s] w (OfR s w) := by
  by_cases hs : s.size = 6
  · obtain ⟨W1, hcopy, HA, HP, HB⟩ := of_copy s hs w
    have KG := Lib.hid (get_rest s hs)
    have hA := Lib.hid HA
    have hP := Lib.hid HP
    have hB := Lib.hid HB
    clear HA HP HB
    go_enter Tryd.func32, Tryd.ntmps32
    go_wp2
    refine wp_scope_jumps 0 (OfJ s w) (fun _ _ => 0) rfl ?_ ?_
    · go_wp2_with fail
      refine (KG.out _).mono ?_
      rintro e w2 ⟨rfl, rfl⟩
      by_cases hp : portB s = 0
      · have HNO : Hid (¬ (s.size = 6 ∧ portB s ≠ 0)) := Lib.hid (fun h => h.2 hp)
        rw [hp]
        go_wp2
        go_step3
        exact ⟨rfl, HNO.out, hB.out, hA.out, _, _, _, _, _, _, _, _, _, _, _, _, _, _, _, _, _, _, _, _, _, _, _, _, _, rfl⟩
      · have q0 : (((portB s : Nat) : Int) == 0) = false := neq_int hp
        have hlt : portB s < 65536 := by have := byt_lt s 4; have := byt_lt s 5; unfold portB; omega
        have HYES : Hid (s.size = 6 ∧ portB s ≠ 0) := Lib.hid ⟨hs, hp⟩
        obtain ⟨⟨p0, p1, p2, p3, p4⟩, pf⟩ := hP.out.cells
        obtain ⟨⟨c0, c1, c2, c3, c4⟩, cf⟩ := hA.out.cells
        have pf4 := pf 4
        have f0 := cf 0
        have f1 := cf 1
        have f2 := cf 2
        have f3 := cf 3
        have f4 := cf 4
        clear pf cf
        obtain ⟨n, hn⟩ : ∃ n, portB s = n := ⟨_, rfl⟩
        obtain ⟨b0, e0⟩ : ∃ n, byt s 0 = n := ⟨_, rfl⟩
        obtain ⟨b1, e1⟩ : ∃ n, byt s 1 = n := ⟨_, rfl⟩
        obtain ⟨b2, e2⟩ : ∃ n, byt s 2 = n := ⟨_, rfl⟩
        obtain ⟨b3, e3⟩ : ∃ n, byt s 3 = n := ⟨_, rfl⟩
        have HRES : Hid (∀ e, e = Ending.returned (.tuple #[plc b0 b1 b2 b3 n, .int .i64 0]) → ∀ w', Below w.heap.size w w' → OfR s w e w') := Lib.hid (fun e he w' hb => ⟨hb, Or.inl ⟨HYES.out.1, HYES.out.2, by rw [he, hn, e0, e1, e2, e3]⟩⟩)
        rw [hn] at q0 hlt
        rw [e0] at p0
        rw [e1] at p1
        rw [e2] at p2
        rw [e3] at p3
        rw [hn]
        clear hn e0 e1 e2 e3 HYES KG hP hp
        go_wp2
        simp only [Exit.jump]
        refine bodyPost_ret (v := .tuple #[plc b0 b1 b2 b3 n, .int .i64 0]) (by simp [results, Tryd.results32, go_sem, plc, *]) rfl (HRES.out _ rfl _ ?_)
        exact (((((hB.out.setCell (show w.heap.size ≤ w.heap.size + 1 by omega) _).setCell (Nat.le_refl _) _).setCell (Nat.le_refl _) _).setCell (Nat.le_refl _) _).setCell (Nat.le_refl _) _).setCell (Nat.le_refl _) _
    · rintro a' w' ⟨hr, hb, hR, u0, u1, u3, u4, u5, u6, u7, u8, u9, u10, u11, u12, u13, u14, u15, u16, u17, u18, u19, u20, u21, u22, u23, u24, u25, rfl⟩
      have HNO := Lib.hid hr
      clear hr hcopy hA hP hB KG
      obtain ⟨⟨c0, c1, c2, c3, c4⟩, hf⟩ := hR.cells
      have f0 := hf 0
      have f1 := hf 1
      have f2 := hf 2
      have f3 := hf 3
      have f4 := hf 4
      have HR := Lib.hid hR
      clear hf hR
      go_wp2
      refine bodyPost_ret (v := .tuple #[plc 0 0 0 0 0, .int .i64 4]) (by simp [results, Tryd.results32, go_sem, plc, *]) rfl ⟨?_, Or.inr ⟨HNO.out, rfl⟩⟩
      exact ((((hb.setCell (Nat.le_refl _) _).setCell (Nat.le_refl _) _).setCell (Nat.le_refl _) _).setCell (Nat.le_refl _) _).setCell (Nat.le_refl _) _
  · have HNO : Hid (¬ (s.size = 6 ∧ portB s ≠ 0)) := Lib.hid (fun h => hs h.1)
    have hne : ((s.size : Int) == 6) = false := neq_int hs
    have hneq : ((s.size : Int) != 6) = true := by unfold bne; rw [hne]; rfl
    have hA0 := heap_alloc_new w (.cells #[.int .u8 0, .int .u8 0, .int .u8 0, .int .u8 0, .int .u16 0] 36)
    go_enter Tryd.func32, Tryd.ntmps32
    go_wp2
    refine wp_scope_jumps 0 (OfJ s w) (fun _ _ => 0) rfl ?_ ?_
    · go_wp2
      go_step3
      refine ⟨rfl, HNO.out, ?_, ?_, _, _, _, _, _, _, _, _, _, _, _, _, _, _, _, _, _, _, _, _, _, _, _, _, _, rfl⟩
      · exact ((Below.refl _ _).alloc (Nat.le_refl _) _).alloc (by simp) _
      · unfold Blk
        rw [Below.heap_alloc _ _ _ (by simp)]; exact hA0
    · rintro a' w' ⟨hr, hb, hR, u0, u1, u3, u4, u5, u6, u7, u8, u9, u10, u11, u12, u13, u14, u15, u16, u17, u18, u19, u20, u21, u22, u23, u24, u25, rfl⟩
      clear hr hA0
      obtain ⟨⟨c0, c1, c2, c3, c4⟩, hf⟩ := hR.cells
      have f0 := hf 0
      have f1 := hf 1
      have f2 := hf 2
      have f3 := hf 3
      have f4 := hf 4
      have HR := Lib.hid hR
      clear hf hR
      go_wp2
      refine bodyPost_ret (v := .tuple #[plc 0 0 0 0 0, .int .i64 4]) (by simp [results, Tryd.results32, go_sem, plc, *]) rfl ⟨?_, Or.inr ⟨HNO.out, rfl⟩⟩
      exact ((((hb.setCell (Nat.le_refl _) _).setCell (Nat.le_refl _) _).setCell (Nat.le_refl _) _).setCell (Nat.le_refl _) _).setCell (Nat.le_refl _) _
end Go.Proofs.YtmflpjgedoopoaaDoor
