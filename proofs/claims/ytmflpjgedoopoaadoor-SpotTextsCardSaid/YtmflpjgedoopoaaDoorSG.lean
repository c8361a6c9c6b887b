/- The place of a text, by definition, walked. -/
import Derived.Test.YtmflpjgedoopoaaDoorSF
namespace Go.Proofs.YtmflpjgedoopoaaDoor
open Go.RowKit

/-- A cut text, put together. -/
theorem cut_join (c : UInt8) : ∀ l : List UInt8, l = (cut c l).headD [] ++ (cut c l).tail.flatMap (fun p => c :: p)
  | [] => rfl
  | x :: xs => by
    have ih := cut_join c xs
    by_cases h : x = c
    · subst h
      rw [cut_cons_eq]
      simp only [List.headD_cons, List.tail_cons, List.nil_append]
      have hne := cut_ne x xs
      cases e : cut x xs with
      | nil => exact absurd e hne
      | cons a t =>
        rw [e] at ih
        simp only [List.headD_cons, List.tail_cons] at ih
        simp only [List.flatMap_cons]
        rw [ih]; simp
    · rw [cut_cons_ne h]
      simp only [List.headD_cons, List.tail_cons]
      rw [List.cons_append, ← ih]
/-- A text that tells a place, cut. -/
theorem dec_iff (l : List UInt8) (ys : Nat → Nat) (port : Nat) :
    Dec l ys port ↔ ∃ a b q0 q1 q2 q3, cut 58 l = [a, b] ∧ cut 46 a = [q0, q1, q2, q3] ∧ Num q0 255 (ys 0) ∧ Num q1 255 (ys 1) ∧ Num q2 255 (ys 2) ∧ Num q3 255 (ys 3) ∧ Num b 65535 port ∧ 1 ≤ port := by
  unfold Dec
  constructor
  · rintro ⟨d0, r0, rfl, n0, d1, r1, rfl, n1, d2, r2, rfl, n2, d3, r3, rfl, n3, n4, hp⟩
    have e0 : sepAt 0 = 46 := rfl
    have e1 : sepAt (0 + 1) = 46 := rfl
    have e2 : sepAt (0 + 1 + 1) = 46 := rfl
    have e3 : sepAt (0 + 1 + 1 + 1) = 58 := rfl
    have g0 := good_free n0.1
    have g1 := good_free n1.1
    have g2 := good_free n2.1
    have g3 := good_free n3.1
    have g4 := good_free n4.1
    rw [e0, e1, e2, e3]
    refine ⟨d0 ++ 46 :: (d1 ++ 46 :: (d2 ++ 46 :: d3)), r3, d0, d1, d2, d3, ?_, ?_, n0, n1, n2, n3, n4, hp⟩
    · rw [show d0 ++ 46 :: (d1 ++ 46 :: (d2 ++ 46 :: (d3 ++ 58 :: r3))) = (d0 ++ 46 :: (d1 ++ 46 :: (d2 ++ 46 :: d3))) ++ 58 :: r3 by simp, cut_append_none, cut_none g4.2]
      intro h
      simp [g0.2, g1.2, g2.2, g3.2] at h
    · rw [cut_append_none g0.1, cut_append_none g1.1, cut_append_none g2.1, cut_none g3.1]
  · rintro ⟨a, b, q0, q1, q2, q3, h1, h2, n0, n1, n2, n3, n4, hp⟩
    have j1 := cut_join 58 l
    have j2 := cut_join 46 a
    rw [h1] at j1
    rw [h2] at j2
    simp at j1 j2
    refine ⟨q0, q1 ++ 46 :: (q2 ++ 46 :: (q3 ++ 58 :: b)), ?_, n0, q1, q2 ++ 46 :: (q3 ++ 58 :: b), rfl, n1, q2, q3 ++ 58 :: b, rfl, n2, q3, b, rfl, n3, n4, hp⟩
    rw [j1, j2]
    show _ = q0 ++ 46 :: _
    simp

def Blk9 (g a b c d p : Nat) (w : World) : Prop := w.heap[g]? = some (.cells #[.int .u8 a, .int .u8 b, .int .u8 c, .int .u8 d, .int .u16 p] 39 (0, 0))
theorem Blk9.cells {g a b c d p : Nat} {w : World} (h : Blk9 g a b c d p w) : PlAt g a b c d p w ∧ (∀ j, w.frozen? ⟨g, j, none⟩ = false) :=
  ⟨⟨cell_of_row w g 0 _ _ _ h, cell_of_row w g 1 _ _ _ h, cell_of_row w g 2 _ _ _ h, cell_of_row w g 3 _ _ _ h, cell_of_row w g 4 _ _ _ h⟩, fun j => frozen_of_row w g j _ _ h⟩
theorem Blk9.later {g a b c d p : Nat} {w w' : World} (h : Blk9 g a b c d p w) (hb : Below w.heap.size w w') : Blk9 g a b c d p w' := (hb.block _ (lt_of_some h)).trans h
def QW (w : World) (g : Nat) (xs : Nat → Nat) (wr : World) : Prop :=
  Below w.heap.size w wr ∧ w.heap.size < g ∧ Blk9 w.heap.size 0 0 0 0 0 wr ∧ Blk9 g (xs 0) (xs 1) (xs 2) (xs 3) 0 wr
theorem QW.later {w wr w1 : World} {g : Nat} {xs : Nat → Nat} (h : QW w g xs wr) (hb : Below wr.heap.size wr w1) : QW w g xs w1 :=
  ⟨h.1.trans (hb.mono h.1.size), h.2.1, h.2.2.1.later hb, h.2.2.2.later hb⟩
theorem QW.put {w wr : World} {g : Nat} {xs : Nat → Nat} (h : QW w g xs wr) (k n : Nat) (hk : k < 4) (c : Int) (hc : c = (n : Int)) : QW w g (upd xs k n) (wr.setCell ⟨g, k, none⟩ (.int .u8 c)) := by
  subst hc
  obtain ⟨h0, hg, h1, h2⟩ := h
  refine ⟨h0.setCell (Nat.le_of_lt hg) _, hg, (heap_setCell_other wr ⟨g, k, none⟩ _ _ (show w.heap.size ≠ g by omega)).trans h1, ?_⟩
  have h := heap_setCell_same wr _ k _ _ (.int .u8 (n : Int)) h2
  unfold Blk9
  rw [h]
  match k, hk with
  | 0, _ => rfl
  | 1, _ => rfl
  | 2, _ => rfl
  | 3, _ => rfl
def RParseR (l : List UInt8) (w : World) (e : Ending) (w' : World) : Prop :=
  Below w.heap.size w w' ∧ ((∃ xs port, Dec l xs port ∧ e = .returned (.tuple #[plc (xs 0) (xs 1) (xs 2) (xs 3) port, .bool true])) ∨ ((¬ ∃ xs port, Dec l xs port) ∧ e = .returned (.tuple #[plc 0 0 0 0 0, .bool false])))

theorem QW.cellK {w wr : World} {g : Nat} {xs : Nat → Nat} (h : QW w g xs wr) (k : Nat) (hk : k < 4) : wr.cell? ⟨g, k, none⟩ = some (.int .u8 (xs k)) ∧ wr.frozen? ⟨g, k, none⟩ = false := by
  obtain ⟨⟨c0, c1, c2, c3, _⟩, cf⟩ := h.2.2.2.cells
  refine ⟨?_, cf k⟩
  match k, hk with
  | 0, _ => exact c0
  | 1, _ => exact c1
  | 2, _ => exact c2
  | 3, _ => exact c3
theorem below5 {w w' : World} {g : Nat} (h : Below w.heap.size w w') (hg : w.heap.size ≤ g) (v0 v1 v2 v3 v4 : Value) :
    Below w.heap.size w (((((w'.setCell ⟨g, 0, none⟩ v0).setCell ⟨g, 1, none⟩ v1).setCell ⟨g, 2, none⟩ v2).setCell ⟨g, 3, none⟩ v3).setCell ⟨g, 4, none⟩ v4) :=
  ((((h.setCell hg _).setCell hg _).setCell hg _).setCell hg _).setCell hg _

set_option maxRecDepth 1000000 in
set_option maxHeartbeats 4000000 in
theorem rparse_any (s : ByteArray) (hs : s.size ≤ 100) (w : World) : Calls Tryd.prog 30 #[.string s] w (RParseR s.data.toList w) := by
  have HL := Lib.hid (Lib.size_eq s)
  have HI := Lib.hid (dec_iff s.data.toList)
  have hmem : ∀ p ∈ cut 58 s.data.toList, p.length ≤ 100 := fun p hp => by have := cut_part_len hp; rw [← HL.out] at this; omega
  have HM := Lib.hid hmem
  have W0 : Blk9 w.heap.size 0 0 0 0 0 (w.alloc (.cells #[.int .u8 0, .int .u8 0, .int .u8 0, .int .u8 0, .int .u16 0] 39)) := heap_alloc_new w _
  have B0 : Below w.heap.size w (w.alloc (.cells #[.int .u8 0, .int .u8 0, .int .u8 0, .int .u8 0, .int .u16 0] 39)) := (Below.refl _ _).alloc (Nat.le_refl _) _
  have K1 : Hid (Calls Tryd.prog 45 #[.string s, .int .u8 58] (w.alloc (.cells #[.int .u8 0, .int .u8 0, .int .u8 0, .int .u8 0, .int .u16 0] 39)) (Gives (w.alloc (.cells #[.int .u8 0, .int .u8 0, .int .u8 0, .int .u8 0, .int .u16 0] 39)) (cut 58 s.data.toList))) := Lib.hid (rcut_any s 58 _ (by omega))
  have hW1 : w.heap.size < (w.alloc (.cells #[.int .u8 0, .int .u8 0, .int .u8 0, .int .u8 0, .int .u16 0] 39)).heap.size := by simp
  have HW0 := Lib.hid W0
  have HB0 := Lib.hid B0
  have HN0 : Hid (cut 58 s.data.toList ≠ []) := Lib.hid (cut_ne _ _)
  clear hmem W0 B0
  generalize cut 58 s.data.toList = A at *
  go_enter Tryd.func30, Tryd.ntmps30
  go_wp2_with fail
  generalize w.alloc (.cells #[.int .u8 0, .int .u8 0, .int .u8 0, .int .u8 0, .int .u16 0] 39) = Wa at *
  refine (K1.out).mono ?_
  rintro e w1 ⟨v, rfl, ⟨a1, c1, rfl, hc1, hN1, hr1⟩, hb1⟩
  have HR1 := Lib.hid hr1
  have HA0 := Lib.hid (HW0.out.later hb1)
  have HB1 := Lib.hid (HB0.out.trans (hb1.mono HB0.out.size))
  have hlt1 : w.heap.size < w1.heap.size := Nat.lt_of_lt_of_le hW1 hb1.size
  clear hr1 hc1 hb1 K1 hW1
  by_cases hA2 : A.length = 2
  · obtain ⟨a, b, rfl⟩ : ∃ a b, A = [a, b] := by
      match A, hA2 with
      | [a, b], _ => exact ⟨a, b, rfl⟩
    obtain ⟨g1, o1, rfl, hg1, hcell⟩ := HR1.out (Nat.zero_lt_succ _)
    have hca := hcell 0 (Nat.zero_lt_succ _)
    have hcb := hcell 1 (Nat.lt_succ_self _)
    have hla : a.length ≤ 100 := HM.out a (by simp)
    have hlb : b.length ≤ 100 := HM.out b (by simp)
    have K2 : Hid (∀ w, Calls Tryd.prog 45 #[.string (str a), .int .u8 46] w (Gives w (cut 46 a))) := Lib.hid (fun w => rcut_any (str a) 46 w (by rw [str_size]; omega))
    rw [Nat.add_zero] at hca
    simp only [List.getD_cons_zero, List.getD_cons_succ] at hca hcb
    clear hcell HR1
    go_wp2_with fail
    refine (K2.out _).mono ?_
    rintro e w2 ⟨v, rfl, ⟨a2, c2, rfl, hc2, hN2, hr2⟩, hb2⟩
    have hcb2 : w2.cell? ⟨g1, o1 + 1, none⟩ = some (.string (str b)) := by rw [hb2.cell (p := ⟨g1, o1 + 1, none⟩) hg1]; exact hcb
    have hg12 : g1 < w2.heap.size := Nat.lt_of_lt_of_le hg1 hb2.size
    have HR2 := Lib.hid hr2
    have HA2 := Lib.hid (HA0.out.later hb2)
    have HB2 := Lib.hid (HB1.out.trans (hb2.mono HB1.out.size))
    have hlt2 : w.heap.size < w2.heap.size := Nat.lt_of_lt_of_le hlt1 hb2.size
    have hmem2 : ∀ p ∈ cut 46 a, p.length ≤ 100 := fun p hp => Nat.le_trans (cut_part_len hp) hla
    have HM2 := Lib.hid hmem2
    have HI2 : Hid (∀ ys port, Dec s.data.toList ys port ↔ ∃ q0 q1 q2 q3, cut 46 a = [q0, q1, q2, q3] ∧ Num q0 255 (ys 0) ∧ Num q1 255 (ys 1) ∧ Num q2 255 (ys 2) ∧ Num q3 255 (ys 3) ∧ Num b 65535 port ∧ 1 ≤ port) := Lib.hid (fun ys port => by
      rw [HI.out ys port]
      constructor
      · rintro ⟨a', b', q0, q1, q2, q3, h, h2⟩
        simp at h
        obtain ⟨rfl, rfl⟩ := h
        exact ⟨q0, q1, q2, q3, h2⟩
      · rintro ⟨q0, q1, q2, q3, h⟩
        exact ⟨a, b, q0, q1, q2, q3, rfl, h⟩)
    clear hr2 hc2 hb2 K2 hca hcb hmem2 HI HM HA0 HW0 HB0
    generalize cut 46 a = B at *
    have WP : Blk9 w2.heap.size 0 0 0 0 0 (w2.alloc (.cells #[.int .u8 0, .int .u8 0, .int .u8 0, .int .u8 0, .int .u16 0] 39)) := heap_alloc_new w2 _
    have BP : Below w2.heap.size w2 (w2.alloc (.cells #[.int .u8 0, .int .u8 0, .int .u8 0, .int .u8 0, .int .u16 0] 39)) := (Below.refl _ _).alloc (Nat.le_refl _) _
    have QP : QW w w2.heap.size (fun _ => 0) (w2.alloc (.cells #[.int .u8 0, .int .u8 0, .int .u8 0, .int .u8 0, .int .u16 0] 39)) := ⟨HB2.out.trans (BP.mono HB2.out.size), hlt2, HA2.out.later BP, WP⟩
    have HBP := Lib.hid BP
    have HQP := Lib.hid QP
    clear WP BP QP
    by_cases hB4 : B.length = 4
    · obtain ⟨q0, q1, q2, q3, rfl⟩ : ∃ q0 q1 q2 q3, B = [q0, q1, q2, q3] := by
        match B, hB4 with
        | [q0, q1, q2, q3], _ => exact ⟨q0, q1, q2, q3, rfl⟩
      obtain ⟨g2, o2, rfl, hg2, hcell2⟩ := HR2.out (Nat.zero_lt_succ _)
      have HC2 := Lib.hid hcell2
      have HI3 : Hid (∀ ys port, Dec s.data.toList ys port ↔ (∀ j, j < 4 → Num ([q0, q1, q2, q3].getD j []) 255 (ys j)) ∧ Num b 65535 port ∧ 1 ≤ port) := Lib.hid (fun ys port => by
        rw [HI2.out ys port]
        constructor
        · rintro ⟨p0, p1, p2, p3, h, h0, h1, h2, h3, h4⟩
          simp at h
          obtain ⟨rfl, rfl, rfl, rfl⟩ := h
          refine ⟨fun j hj => ?_, h4⟩
          match j, hj with
          | 0, _ => exact h0
          | 1, _ => exact h1
          | 2, _ => exact h2
          | 3, _ => exact h3
        · rintro ⟨h, h4⟩
          exact ⟨q0, q1, q2, q3, rfl, h 0 (by omega), h 1 (by omega), h 2 (by omega), h 3 (by omega), h4⟩)
      have HM3 : Hid (∀ k, k < 4 → ([q0, q1, q2, q3].getD k []).length ≤ 100) := Lib.hid (fun k hk => by
        refine HM2.out _ ?_
        match k, hk with
        | 0, _ => simp
        | 1, _ => simp
        | 2, _ => simp
        | 3, _ => simp)
      have HC3 : Hid (∀ j, j < 4 → w2.cell? ⟨g2, o2 + j, none⟩ = some (.string (str ([q0, q1, q2, q3].getD j [])))) := Lib.hid (fun j hj => HC2.out j hj)
      clear hcell2 HR2 HI2 HM2 HC2
      generalize hB : [q0, q1, q2, q3] = B at *
      have HBB := Lib.hid hB
      go_wp2
      go_loopw [7] (fun i wr => ∃ (k : Nat) (xs : Nat → Nat), k ≤ 4 ∧ i = .int .i64 k ∧ QW w w2.heap.size xs wr ∧ Below w2.heap.size w2 wr ∧ Hid (∀ j, j < k → Num (B.getD j []) 255 (xs j))) (fun i _ => 4 - (intOf i).toNat)
      case atStart => exact ⟨0, fun _ => 0, by omega, rfl, HQP.out, HBP.out, Lib.hid (fun j hj => absurd hj (by omega))⟩
      case round =>
        obtain ⟨k, xs, hk, rfl, hqw, hbw, hnum⟩ := hrel
        by_cases hlt : k < 4
        · have hcell : wr.cell? ⟨g2, o2 + k, none⟩ = some (.string (str (B.getD k []))) := by rw [hbw.cell (p := ⟨g2, o2 + k, none⟩) hg2]; exact HC3.out k hlt
          have KN := Lib.hid (rnumber_any (str (B.getD k [])) (by rw [str_size]; exact HM3.out k hlt) wr)
          have HQ := Lib.hid hqw
          have HBW := Lib.hid hbw
          clear hqw hbw
          obtain ⟨q, hq⟩ : ∃ q, B.getD k [] = q := ⟨_, rfl⟩
          rw [hq] at hcell KN
          have HEQ := Lib.hid hq
          clear hq
          go_wp2_with fail
          refine (KN.out).mono ?_
          rintro e w3 ⟨n, ke, rfl, hn, hke, h1, h2, hb3⟩
          rw [str_data] at h1 h2
          have HQ3 := Lib.hid (HQ.out.later hb3)
          have HBW3 := Lib.hid (HBW.out.trans (hb3.mono HBW.out.size))
          have H1 := Lib.hid h1
          have H2 := Lib.hid h2
          clear h1 h2 hb3 hcell KN HQ HBW
          rcases hke with rfl | ⟨hk0, hkz⟩
          · by_cases h255 : n ≤ 255
            · have d1 : decide ((255 : Int) < (n : Int)) = false := decide_eq_false (by omega)
              obtain ⟨hck, hfk⟩ := HQ3.out.cellK k hlt
              go_wp2
              go_roundw
              case rel =>
                refine ⟨k + 1, upd xs k n, by omega, by go_num, HQ3.out.put k n hlt _ rfl, HBW3.out.setCell (Nat.le_refl _) _, Lib.hid (fun j hj => ?_)⟩
                unfold upd
                by_cases e : j = k
                · subst e; rw [if_pos rfl, HEQ.out]; exact ⟨(H1.out (by trivial)).1, (H1.out (by trivial)).2, h255⟩
                · rw [if_neg e]; exact hnum.out j (by omega)
              case measure => simp [intOf] <;> omega
            · have d1 : decide ((255 : Int) < (n : Int)) = true := decide_eq_true (by omega)
              have HNO : Hid (¬ ∃ ys port, Dec s.data.toList ys port) := Lib.hid (by
                rintro ⟨ys, port, hd⟩
                have h := ((HI3.out ys port).1 hd).1 k hlt
                rw [HEQ.out] at h
                have := (H1.out rfl).2
                have h3 := h.2.1
                have h4 := h.2.2
                omega)
              obtain ⟨⟨z0, z1, z2, z3, z4⟩, zf⟩ := (HQ3.out).2.2.1.cells
              have f0 := zf 0
              have f1 := zf 1
              have f2 := zf 2
              have f3 := zf 3
              have f4 := zf 4
              clear zf
              go_wp2
              refine bodyPost_ret (v := .tuple #[plc 0 0 0 0 0, .bool false]) (by simp [results, Tryd.results30, go_sem, plc, *]) rfl ⟨below5 (HQ3.out).1 (Nat.le_refl _) _ _ _ _ _, Or.inr ⟨HNO.out, rfl⟩⟩
          · have hkz' : ((ke : Int) != 0) = true := by unfold bne; rw [hkz]; rfl
            have HNO : Hid (¬ ∃ ys port, Dec s.data.toList ys port) := Lib.hid (by
              rintro ⟨ys, port, hd⟩
              have h := ((HI3.out ys port).1 hd).1 k hlt
              rw [HEQ.out] at h
              exact H2.out hk0 255 (by omega) ⟨_, h⟩)
            obtain ⟨⟨z0, z1, z2, z3, z4⟩, zf⟩ := (HQ3.out).2.2.1.cells
            have f0 := zf 0
            have f1 := zf 1
            have f2 := zf 2
            have f3 := zf 3
            have f4 := zf 4
            clear zf
            go_wp2
            refine bodyPost_ret (v := .tuple #[plc 0 0 0 0 0, .bool false]) (by simp [results, Tryd.results30, go_sem, plc, *]) rfl ⟨below5 (HQ3.out).1 (Nat.le_refl _) _ _ _ _ _, Or.inr ⟨HNO.out, rfl⟩⟩
        · obtain rfl : k = 4 := by omega
          have hcell : wr.cell? ⟨g1, o1 + 1, none⟩ = some (.string (str b)) := by rw [hbw.cell (p := ⟨g1, o1 + 1, none⟩) hg12]; exact hcb2
          have KN := Lib.hid (rnumber_any (str b) (by rw [str_size]; exact hlb) wr)
          have HQ := Lib.hid hqw
          clear hqw hbw
          go_wp2_with fail
          refine (KN.out).mono ?_
          rintro e w3 ⟨n, ke, rfl, hn, hke, h1, h2, hb3⟩
          rw [str_data] at h1 h2
          have HQ3 := Lib.hid (HQ.out.later hb3)
          have H1 := Lib.hid h1
          have H2 := Lib.hid h2
          clear h1 h2 hb3 hcell KN HQ
          rcases hke with rfl | ⟨hk0, hkz⟩
          · by_cases hin : 1 ≤ n ∧ n ≤ 65535
            · have d0 : decide ((n : Int) < 1) = false := decide_eq_false (by omega)
              have d1 : decide ((65535 : Int) < (n : Int)) = false := decide_eq_false (by omega)
              have hn1 := hin.1
              have hn6 := hin.2
              have HYES : Hid (Dec s.data.toList xs n) := Lib.hid ((HI3.out xs n).2 ⟨hnum.out, ⟨(H1.out rfl).1, (H1.out rfl).2, hin.2⟩, hin.1⟩)
              obtain ⟨⟨p0, p1, p2, p3, p4⟩, pf⟩ := HQ3.out.2.2.2.cells
              obtain ⟨⟨z0, z1, z2, z3, z4⟩, zf⟩ := HQ3.out.2.2.1.cells
              have pf4 := pf 4
              have f0 := zf 0
              have f1 := zf 1
              have f2 := zf 2
              have f3 := zf 3
              have f4 := zf 4
              have hne : w.heap.size ≠ w2.heap.size := Nat.ne_of_lt hlt2
              clear pf zf hin
              go_wp2
              refine bodyPost_ret (v := .tuple #[plc (xs 0) (xs 1) (xs 2) (xs 3) n, .bool true]) (by simp [results, Tryd.results30, go_sem, plc, *]) rfl ⟨?_, Or.inl ⟨xs, n, HYES.out, rfl⟩⟩
              exact below5 (HQ3.out.1.setCell (Nat.le_of_lt hlt2) _) (Nat.le_refl _) _ _ _ _ _
            · have HNO : Hid (¬ ∃ ys port, Dec s.data.toList ys port) := Lib.hid (by
                rintro ⟨ys, port, hd⟩
                obtain ⟨_, h, h1⟩ := (HI3.out ys port).1 hd
                have := (H1.out rfl).2
                have h3 := h.2.1
                have h4 := h.2.2
                omega)
              by_cases h0 : n < 1
              · have d0 : decide ((n : Int) < 1) = true := decide_eq_true (by omega)
                obtain ⟨⟨z0, z1, z2, z3, z4⟩, zf⟩ := (HQ3.out).2.2.1.cells
                have f0 := zf 0
                have f1 := zf 1
                have f2 := zf 2
                have f3 := zf 3
                have f4 := zf 4
                clear zf
                go_wp2
                refine bodyPost_ret (v := .tuple #[plc 0 0 0 0 0, .bool false]) (by simp [results, Tryd.results30, go_sem, plc, *]) rfl ⟨below5 (HQ3.out).1 (Nat.le_refl _) _ _ _ _ _, Or.inr ⟨HNO.out, rfl⟩⟩
              · have d0 : decide ((n : Int) < 1) = false := decide_eq_false (by omega)
                have d1 : decide ((65535 : Int) < (n : Int)) = true := decide_eq_true (by omega)
                obtain ⟨⟨z0, z1, z2, z3, z4⟩, zf⟩ := (HQ3.out).2.2.1.cells
                have f0 := zf 0
                have f1 := zf 1
                have f2 := zf 2
                have f3 := zf 3
                have f4 := zf 4
                clear zf
                go_wp2
                refine bodyPost_ret (v := .tuple #[plc 0 0 0 0 0, .bool false]) (by simp [results, Tryd.results30, go_sem, plc, *]) rfl ⟨below5 (HQ3.out).1 (Nat.le_refl _) _ _ _ _ _, Or.inr ⟨HNO.out, rfl⟩⟩
          · have hkz' : ((ke : Int) != 0) = true := by unfold bne; rw [hkz]; rfl
            have HNO : Hid (¬ ∃ ys port, Dec s.data.toList ys port) := Lib.hid (by
              rintro ⟨ys, port, hd⟩
              exact H2.out hk0 65535 (by omega) ⟨_, ((HI3.out ys port).1 hd).2.1⟩)
            obtain ⟨⟨z0, z1, z2, z3, z4⟩, zf⟩ := (HQ3.out).2.2.1.cells
            have f0 := zf 0
            have f1 := zf 1
            have f2 := zf 2
            have f3 := zf 3
            have f4 := zf 4
            clear zf
            go_wp2
            refine bodyPost_ret (v := .tuple #[plc 0 0 0 0 0, .bool false]) (by simp [results, Tryd.results30, go_sem, plc, *]) rfl ⟨below5 (HQ3.out).1 (Nat.le_refl _) _ _ _ _ _, Or.inr ⟨HNO.out, rfl⟩⟩
    · have hne2 : ((B.length : Int) == 4) = false := neq_int hB4
      have hneq : ((B.length : Int) != 4) = true := by unfold bne; rw [hne2]; rfl
      have hno : Hid (¬ ∃ ys port, Dec s.data.toList ys port) := Lib.hid (by
        rintro ⟨ys, port, hd⟩
        obtain ⟨_, _, _, _, h, _⟩ := (HI2.out ys port).1 hd
        rw [h] at hB4
        exact hB4 rfl)
      obtain ⟨⟨z0, z1, z2, z3, z4⟩, zf⟩ := HA2.out.cells
      have f0 := zf 0
      have f1 := zf 1
      have f2 := zf 2
      have f3 := zf 3
      have f4 := zf 4
      clear zf
      go_wp2
      refine bodyPost_ret (v := .tuple #[plc 0 0 0 0 0, .bool false]) (by simp [results, Tryd.results30, go_sem, plc, *]) rfl ⟨?_, Or.inr ⟨hno.out, rfl⟩⟩
      first
        | exact below5 HB2.out (Nat.le_refl _) _ _ _ _ _
        | (refine (below5 HB2.out (Nat.le_refl _) _ _ _ _ _).alloc ?_ _
           simp
           omega)
        | exact below5 (HB2.out.setCell (Nat.le_of_lt hlt2) _) (Nat.le_refl _) _ _ _ _ _
  · have hne2 : ((A.length : Int) == 2) = false := neq_int hA2
    have hneq : ((A.length : Int) != 2) = true := by unfold bne; rw [hne2]; rfl
    obtain ⟨⟨c0, c1', c2, c3, c4⟩, cf⟩ := HA0.out.cells
    have f0 := cf 0
    have f1 := cf 1
    have f2 := cf 2
    have f3 := cf 3
    have f4 := cf 4
    clear cf
    go_wp2
    refine bodyPost_ret (v := .tuple #[plc 0 0 0 0 0, .bool false]) (by simp [results, Tryd.results30, go_sem, plc, *]) rfl ⟨below5 HB1.out (Nat.le_refl _) _ _ _ _ _, Or.inr ⟨?_, rfl⟩⟩
    rintro ⟨ys, port, hd⟩
    obtain ⟨a, b, _, _, _, _, h, _⟩ := (HI.out ys port).1 hd
    rw [h] at hA2
    exact hA2 rfl
end Go.Proofs.YtmflpjgedoopoaaDoor
