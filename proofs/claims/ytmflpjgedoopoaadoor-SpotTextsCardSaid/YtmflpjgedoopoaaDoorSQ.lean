/- The law of places' texts. -/
import Derived.Test.YtmflpjgedoopoaaDoorSU
namespace Go.Proofs.YtmflpjgedoopoaaDoor
open Go.RowKit

/-- A place at an address that is there. -/
def PlB (g a b c d p : Nat) (w : World) : Prop := PlAt g a b c d p w ∧ g < w.heap.size
theorem PlB.later {g a b c d p : Nat} {w w' : World} (h : PlB g a b c d p w) (hb : Below w.heap.size w w') : PlB g a b c d p w' := ⟨h.1.later h.2 hb, Nat.lt_of_lt_of_le h.2 hb.size⟩
theorem plb_new (a b c d p : Nat) (w : World) (t : TypeId) : PlB w.heap.size a b c d p (w.alloc (.cells #[.int .u8 a, .int .u8 b, .int .u8 c, .int .u8 d, .int .u16 p] t)) := by
  refine ⟨?_, by simp⟩
  refine ⟨?_, ?_, ?_, ?_, ?_⟩ <;> (rw [World.cell?_alloc_new]; rfl)
theorem below_new (w : World) (t : TypeId) (c : Array Value) : Below w.heap.size w (w.alloc (.cells c t)) := (Below.refl _ _).alloc (Nat.le_refl _) _

set_option maxRecDepth 1000000 in
set_option maxHeartbeats 8000000 in
theorem stexts_walk (s : ByteArray) (a b c d p : Nat) (ha : a < 256) (hb : b < 256) (hc : c < 256) (hd : d < 256) (hp : p < 65536) (w : World) (hl : Lay w) :
    Calls Tryd.prog 8 #[.string s, plc a b c d p] w fun e w' => e = .returned (.bool true) ∧ Below w.heap.size w w' := by
  have HLAY := Lib.hid hl
  have K0 : Hid (∀ w1, Below w.heap.size w w1 → Calls Tryd.prog 28 #[] w1 fun e w' => e = .returned (.bool true) ∧ Below w1.heap.size w1 w') := Lib.hid (fun w1 h => sawake_any w1 (HLAY.out.later h))
  have HP := Lib.hid (plb_new a b c d p w 36)
  have HB := Lib.hid (below_new w 36 #[.int .u8 a, .int .u8 b, .int .u8 c, .int .u8 d, .int .u16 p])
  by_cases hbig : 100 < s.size
  · have hbig' : (100 : Int) < s.size := by omega
    unfold plc at *
    go_enter Tryd.func8, Tryd.ntmps8
    go_wp2_with fail
    generalize w.alloc (.cells #[.int .u8 a, .int .u8 b, .int .u8 c, .int .u8 d, .int .u16 p] 36) = W at *
    refine (K0.out _ HB.out).mono ?_
    rintro e w1 ⟨rfl, hb⟩
    replace HB := Lib.hid (HB.out.trans (hb.mono HB.out.size))
    clear hb
    go_wp2
    go_ret
    exact ⟨rfl, HB.out⟩
  · have hsz : s.size ≤ 100 := by omega
    have HBOTH := Lib.hid (both_ways s hsz)
    have HBACK := Lib.hid (back_ways a b c d p ha hb hc hd hp)
    have KT : Hid (∀ w1, Below w.heap.size w w1 → Calls Tryd.prog 31 #[plc a b c d p] w1 fun e w' => e = .returned (.string (str (textN a b c d p))) ∧ Below w1.heap.size w1 w') := Lib.hid (fun w1 h => text_any a b c d p ha hb hc hd hp w1 (HLAY.out.later h))
    have KRT := Lib.hid (rtext_any a b c d p ha hb hc hd hp)
    have KB := Lib.hid (bytes_any a b c d p ha hb hc hd hp)
    have KRB := Lib.hid (rbytes_any a b c d p ha hb hc hd hp)
    generalize str (textN a b c d p) = T1 at *
    generalize str (bytesN a b c d p) = T2 at *
    have hq9 : ∀ w, (Op.equalIn 9999 33 (.agg #[.int .u8 a, .int .u8 b, .int .u8 c, .int .u8 d]) (.agg #[.int .u8 a, .int .u8 b, .int .u8 c, .int .u8 d])).run Tryd.prog w = .ok true w := fun w => by
      have := eqIPd 9997 a b c d a b c d w
      rw [decide_eq_true ⟨rfl, rfl, rfl, rfl⟩] at this
      exact this
    have HQ9 := Lib.hid hq9
    have HBK : Hid (∃ (y0 y1 y2 y3 yp : Nat) (E2 : Int), ((p = 0 ∧ E2 = 4) ∨ (((p : Int) == 0) = false ∧ E2 = 0 ∧ y0 = a ∧ y1 = b ∧ y2 = c ∧ y3 = d ∧ yp = p)) ∧ (∀ w, Lay w → Calls Tryd.prog 29 #[.string T1] w fun e w' => e = .returned (.tuple #[plc y0 y1 y2 y3 yp, .int .i64 E2]) ∧ Below w.heap.size w w') ∧ (∀ w, Calls Tryd.prog 32 #[.string T2] w fun e w' => e = .returned (.tuple #[plc y0 y1 y2 y3 yp, .int .i64 E2]) ∧ Below w.heap.size w w')) := Lib.hid (by
      rcases HBACK.out with ⟨h, k1, k2⟩ | ⟨h, k1, k2⟩
      · exact ⟨0, 0, 0, 0, 0, 4, Or.inl ⟨h, rfl⟩, k1, k2⟩
      · exact ⟨a, b, c, d, p, 0, Or.inr ⟨h, rfl, rfl, rfl, rfl, rfl, rfl⟩, k1, k2⟩)
    clear HBACK
    have HPZ := Lib.hid hbig
    clear hl ha hb hc hd hp hbig hq9
    have main : ∀ (x0 x1 x2 x3 xp : Nat) (E : Int) (ok : Bool) (hE : (E = 0 ∧ ok = true ∧ ∀ w1, Below w.heap.size w w1 → Calls Tryd.prog 31 #[plc x0 x1 x2 x3 xp] w1 fun e w' => e = .returned (.string s) ∧ Below w1.heap.size w1 w') ∨ (E = 4 ∧ ok = false)) (hbo : Both s x0 x1 x2 x3 xp E ok),
        Calls Tryd.prog 8 #[.string s, plc a b c d p] w fun e w' => e = .returned (.bool true) ∧ Below w.heap.size w w' := by
      intro x0 x1 x2 x3 xp E ok hE hbo
      have KP1 : Hid (∀ w1, Below w.heap.size w w1 → Calls Tryd.prog 29 #[.string s] w1 fun e w' => e = .returned (.tuple #[plc x0 x1 x2 x3 xp, .int .i64 E]) ∧ Below w1.heap.size w1 w') := Lib.hid (fun w1 h => hbo.1 w1 (HLAY.out.later h))
      have KR := Lib.hid hbo.2
      have hx9 : ∀ w, (Op.equalIn 9999 33 (.agg #[.int .u8 x0, .int .u8 x1, .int .u8 x2, .int .u8 x3]) (.agg #[.int .u8 x0, .int .u8 x1, .int .u8 x2, .int .u8 x3])).run Tryd.prog w = .ok true w := fun w => by
        have := eqIPd 9997 x0 x1 x2 x3 x0 x1 x2 x3 w
        rw [decide_eq_true ⟨rfl, rfl, rfl, rfl⟩] at this
        exact this
      clear hbo HBOTH
      have HE := Lib.hid hE
      clear hE
      unfold plc at *
      go_enter Tryd.func8, Tryd.ntmps8
      go_wp2_with fail
      generalize w.alloc (.cells #[.int .u8 a, .int .u8 b, .int .u8 c, .int .u8 d, .int .u16 p] 36) = W at *
      refine (K0.out _ HB.out).mono ?_
      rintro e w1 ⟨rfl, hb⟩
      replace HP := Lib.hid (HP.out.later hb)
      replace HB := Lib.hid (HB.out.trans (hb.mono HB.out.size))
      clear hb K0
      go_wp2_with fail
      refine (KP1.out _ HB.out).mono ?_
      rintro e w2 ⟨rfl, hb⟩
      replace HP := Lib.hid ((HP.out.later hb).later (below_new w2 36 #[.int .u8 x0, .int .u8 x1, .int .u8 x2, .int .u8 x3, .int .u16 xp]))
      replace HB := Lib.hid (HB.out.trans (hb.mono HB.out.size))
      replace HB := Lib.hid (HB.out.trans ((below_new w2 36 #[.int .u8 x0, .int .u8 x1, .int .u8 x2, .int .u8 x3, .int .u16 xp]).mono HB.out.size))
      have HX := Lib.hid (plb_new x0 x1 x2 x3 xp w2 36)
      clear hb KP1
      go_wp2_with fail
      generalize w2.alloc (.cells #[.int .u8 x0, .int .u8 x1, .int .u8 x2, .int .u8 x3, .int .u16 xp] 36) = W2 at *
      refine (KR.out _).mono ?_
      rintro e w3 ⟨rfl, hb⟩
      replace HP := Lib.hid (HP.out.later hb)
      replace HX := Lib.hid (HX.out.later hb)
      replace HB := Lib.hid (HB.out.trans (hb.mono HB.out.size))
      clear hb KR
      obtain ⟨⟨x00, x01, x02, x03, x04⟩, gx⟩ := HX.out
      obtain ⟨⟨c0, c1, c2, c3, c4⟩, gp⟩ := HP.out
      have HPN := Lib.hid (HP.out.later (below_new w3 39 #[.int .u8 x0, .int .u8 x1, .int .u8 x2, .int .u8 x3, .int .u16 xp]))
      have HBN := Lib.hid (HB.out.trans ((below_new w3 39 #[.int .u8 x0, .int .u8 x1, .int .u8 x2, .int .u8 x3, .int .u16 xp]).mono HB.out.size))
      clear HP HB HX
      rcases HE.out with ⟨rfl, rfl, hX⟩ | ⟨rfl, rfl⟩
      all_goals
        (first
        | (have KX := Lib.hid hX
           clear hX HE
           go_wp2_with fail
           generalize w3.alloc (.cells #[.int .u8 x0, .int .u8 x1, .int .u8 x2, .int .u8 x3, .int .u16 xp] 39) = W3 at *
           refine (KX.out _ HBN.out).mono ?_
           rintro e w4 ⟨rfl, hb⟩
           have HP := Lib.hid (HPN.out.later hb)
           have HB := Lib.hid (HBN.out.trans (hb.mono HBN.out.size))
           clear hb HPN HBN c0 c1 c2 c3 c4 gp KX x00 x01 x02 x03 x04 gx
           obtain ⟨⟨c0, c1, c2, c3, c4⟩, gp⟩ := HP.out
           go_wp2_with fail
           clear hx9)
        | (clear HE
           go_wp2_with fail
           generalize w3.alloc (.cells #[.int .u8 x0, .int .u8 x1, .int .u8 x2, .int .u8 x3, .int .u16 xp] 39) = w4 at *
           have HP := HPN
           have HB := HBN
           clear HPN HBN hx9))
      all_goals
        clear c0 c1 c2 c3 c4 gp
        refine (KT.out _ HB.out).mono ?_
        rintro e w5 ⟨rfl, hb⟩
        replace HP := Lib.hid (HP.out.later hb)
        replace HB := Lib.hid (HB.out.trans (hb.mono HB.out.size))
        clear hb
        obtain ⟨y0, y1, y2, y3, yp, E2, hcls, hP2, hO⟩ := HBK.out
        have HCLS := Lib.hid hcls
        have KP2 := Lib.hid hP2
        have KO := Lib.hid hO
        clear hcls hP2 hO HBK
        unfold plc at *
        go_wp2_with fail
        refine (KP2.out _ (HLAY.out.later HB.out)).mono ?_
        rintro e w6 ⟨rfl, hb⟩
        replace HP := Lib.hid (HP.out.later hb)
        replace HB := Lib.hid (HB.out.trans (hb.mono HB.out.size))
        clear hb KP2
        obtain ⟨⟨c0, c1, c2, c3, c4⟩, gp⟩ := HP.out
        have HY := Lib.hid (plb_new y0 y1 y2 y3 yp w6 36)
        replace HP := Lib.hid (HP.out.later (below_new w6 36 #[.int .u8 y0, .int .u8 y1, .int .u8 y2, .int .u8 y3, .int .u16 yp]))
        replace HB := Lib.hid (HB.out.trans ((below_new w6 36 #[.int .u8 y0, .int .u8 y1, .int .u8 y2, .int .u8 y3, .int .u16 yp]).mono HB.out.size))
        go_wp2_with fail
        clear c0 c1 c2 c3 c4 gp
        generalize w6.alloc (.cells #[.int .u8 y0, .int .u8 y1, .int .u8 y2, .int .u8 y3, .int .u16 yp] 36) = W4 at *
        refine (KB.out _).mono ?_
        rintro e w7 ⟨rfl, hb⟩
        replace HP := Lib.hid (HP.out.later hb)
        replace HY := Lib.hid (HY.out.later hb)
        replace HB := Lib.hid (HB.out.trans (hb.mono HB.out.size))
        clear hb
        go_wp2_with fail
        refine (KO.out _).mono ?_
        rintro e w8 ⟨rfl, hb⟩
        replace HP := Lib.hid (HP.out.later hb)
        replace HY := Lib.hid (HY.out.later hb)
        replace HB := Lib.hid (HB.out.trans (hb.mono HB.out.size))
        clear hb KO
        have HZ := Lib.hid (plb_new y0 y1 y2 y3 yp w8 36)
        replace HP := Lib.hid (HP.out.later (below_new w8 36 #[.int .u8 y0, .int .u8 y1, .int .u8 y2, .int .u8 y3, .int .u16 yp]))
        replace HY := Lib.hid (HY.out.later (below_new w8 36 #[.int .u8 y0, .int .u8 y1, .int .u8 y2, .int .u8 y3, .int .u16 yp]))
        replace HB := Lib.hid (HB.out.trans ((below_new w8 36 #[.int .u8 y0, .int .u8 y1, .int .u8 y2, .int .u8 y3, .int .u16 yp]).mono HB.out.size))
        go_wp2_with fail
        generalize w8.alloc (.cells #[.int .u8 y0, .int .u8 y1, .int .u8 y2, .int .u8 y3, .int .u16 yp] 36) = W6 at *
        obtain ⟨⟨c0, c1, c2, c3, c4⟩, gp⟩ := HP.out
        have KT6 : Hid (∀ w1, Below W6.heap.size W6 w1 → Calls Tryd.prog 31 #[.agg #[.int .u8 a, .int .u8 b, .int .u8 c, .int .u8 d, .int .u16 p]] w1 fun e w' => e = .returned (.string T1) ∧ Below w1.heap.size w1 w') := Lib.hid (fun w1 h => KT.out w1 (HB.out.trans (h.mono HB.out.size)))
        (go_region_held3 (fun w' => w'.cell? ⟨w.heap.size, 0, none⟩ = some (.int .u8 a) ∧ w'.cell? ⟨w.heap.size, 1, none⟩ = some (.int .u8 b) ∧ w'.cell? ⟨w.heap.size, 2, none⟩ = some (.int .u8 c) ∧ w'.cell? ⟨w.heap.size, 3, none⟩ = some (.int .u8 d) ∧ w'.cell? ⟨w.heap.size, 4, none⟩ = some (.int .u16 p) ∧ w.heap.size < w'.heap.size ∧ Below W6.heap.size W6 w')
        (first
          | exact ⟨c0, c1, c2, c3, c4, gp, (Below.refl W6.heap.size W6).drew⟩
          | (go_split_ands
             refine ⟨?_, ?_, ?_, ?_, ?_, ?_, ?_⟩
             · (rw [hb1.cell (p := ⟨w.heap.size, 0, none⟩) (show w.heap.size < _ from by omega)]; assumption)
             · (rw [hb1.cell (p := ⟨w.heap.size, 1, none⟩) (show w.heap.size < _ from by omega)]; assumption)
             · (rw [hb1.cell (p := ⟨w.heap.size, 2, none⟩) (show w.heap.size < _ from by omega)]; assumption)
             · (rw [hb1.cell (p := ⟨w.heap.size, 3, none⟩) (show w.heap.size < _ from by omega)]; assumption)
             · (rw [hb1.cell (p := ⟨w.heap.size, 4, none⟩) (show w.heap.size < _ from by omega)]; assumption)
             · exact Nat.lt_of_lt_of_le (by assumption) hb1.size
             · exact Below.trans (by assumption) (hb1.mono (Below.size (by assumption))))
          | go_keep)
        (first
          | (go_at_call 31; ((with_reducible refine (KT6.out _ ?_).mono ?_); (go_split_ands; assumption); rintro e w9 ⟨rfl, hb1⟩))
          | (go_at_call 34; ((with_reducible refine (KRT.out _).mono ?_); rintro e w1 ⟨rfl, hb1⟩))
          | (go_at_call 33; ((with_reducible refine (KB.out _).mono ?_); rintro e w1 ⟨rfl, hb1⟩))
          | (go_at_call 35; ((with_reducible refine (KRB.out _).mono ?_); rintro e w1 ⟨rfl, hb1⟩))))
        rename_i hS
        clear c0 c1 c2 c3 c4 gp KT6
        obtain ⟨c0, c1, c2, c3, c4, gp, hb⟩ := hS
        obtain ⟨⟨y00, y01, y02, y03, y04⟩, _⟩ := HY.out.later hb
        obtain ⟨⟨z00, z01, z02, z03, z04⟩, _⟩ := HZ.out.later hb
        replace HB := Lib.hid (HB.out.trans (hb.mono HB.out.size))
        clear hb HP
        simp only [Exit.then]
        apply_assumption
        rcases HCLS.out with ⟨rfl, rfl⟩ | ⟨hp0, rfl, rfl, rfl, rfl, rfl, rfl⟩
        · go_wp2
          go_ret
          exact ⟨rfl, HB.out⟩
        · have hq9 := HQ9.out
          go_wp2
          go_ret
          exact ⟨rfl, HB.out⟩
    rcases HBOTH.out with ⟨x0, x1, x2, x3, xp, h0, h1, h2, h3, h4, e, hbo⟩ | hbo
    · refine main x0 x1 x2 x3 xp 0 true (Or.inl ⟨rfl, rfl, fun w1 h => ?_⟩) hbo
      have := text_any x0 x1 x2 x3 xp h0 h1 h2 h3 h4 w1 (HLAY.out.later h)
      rw [e] at this
      exact this
    · exact main 0 0 0 0 0 4 false (Or.inr ⟨rfl, rfl⟩) hbo
end Go.Proofs.YtmflpjgedoopoaaDoor
