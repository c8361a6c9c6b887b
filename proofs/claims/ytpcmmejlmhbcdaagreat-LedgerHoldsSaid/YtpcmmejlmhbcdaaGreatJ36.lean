/- The law LedgerHolds: one way through its loop. -/
import Derived.Test.YtpcmmejlmhbcdaaGreatJ32
set_option linter.unusedVariables false
set_option linter.unusedSimpArgs false
namespace Go.Proofs.YtpcmmejlmhbcdaaGreat
open Go.RowKit
set_option maxRecDepth 1000000 in
set_option maxHeartbeats 16000000 in
theorem way_d {m cap k b off b5 i row D P : Nat} {KK : Int} {L : List En} {w wr : World} {u : Nat → Value} {Q0 : Exit → Act → World → Prop} (h100 : m ≤ 100) (hk : k ≤ 255) (hk0 : ¬ k = 0) (HW1 : Hid (w.heap.size ≤ b5)) (hlt : i < m) (hri : row ≤ i) (HI : Hid (Inv L row false)) (HL : Hid (LBx wr b5 L)) (HP : Hid (wr.rangeAt (b5 + 1) 0 (pc (kk 8)))) (HB : Hid (Below w.heap.size w wr))
    (c0 : wr.cell? ⟨b, off + i * 3, none⟩ = some (.int .u8 (D : Int))) (c1 : wr.cell? ⟨b, off + i * 3 + 1, none⟩ = some (.int .u8 (P : Int))) (c2 : wr.cell? ⟨b, off + i * 3 + 2, none⟩ = some (.int .i64 KK)) (hD : D ≤ 255) (hP : P ≤ 255) (hp : P % 3 = 0) (ht : D % 4 < 2) (hkr :  k ≤ row + 1) :
    Code.wp Tryz.prog bodyC (Exit.then (fun a' w'' => WI (some ⟨b, off, none⟩) m cap k b5 w a' w'' ∧ Wmu m a' < m - i) Q0) (fw (some ⟨b, off, none⟩) m cap k b5 (.int .i64 (i : Int)) (.int .i64 (row : Int)) (.bool false) u) wr := by
  conv => arg 2; whnf
  unfold fw
  obtain ⟨dm, hdm⟩ : ∃ dm, dm = D % 4 := ⟨_, rfl⟩
  obtain ⟨j0, hj0⟩ : ∃ j0, j0 = P % 8 := ⟨_, rfl⟩
  obtain ⟨r3, hr3⟩ : ∃ r3, r3 = P % 3 := ⟨_, rfl⟩
  have e4 : (D : Int) % 4 = (dm : Int) := by omega
  have e8 : (P : Int) % 8 = (j0 : Int) := by omega
  have e3 : (P : Int) % 3 = (r3 : Int) := by omega
  have hj8 : j0 < 8 := by omega
  have hd4 : dm < 4 := by omega
  have q1 : (i : Int) < (m : Int) := by omega
  rw [← hr3] at hp
  rw [← hdm] at ht
  clear hdm hj0 hr3
  have i1 : off + i * 3 + 0 = off + i * 3 := by omega
  go_upto_region 12 with (fail)
  have hBa : Below wr.heap.size wr ((wr.alloc (.cells #[.int .u8 (D : Int), .int .u8 (P : Int), .int .i64 KK] 31)).alloc (.cells #[.int .u8 (j0 : Int), .int .u8 0, .int .u8 0, .int .u8 0, .int .u8 0, .int .u8 0, .int .u8 0, .int .u8 0, .int .u8 0, .int .u8 0, .int .u8 0, .int .u8 0, .int .u8 0, .int .u8 0, .int .u8 0, .int .u8 0] 24)) := bt (alloc_below _ _)
  have hs1 : (wr.alloc (.cells #[.int .u8 (D : Int), .int .u8 (P : Int), .int .i64 KK] 31)).heap.size = wr.heap.size + 1 := by simp
  have hXa : ((wr.alloc (.cells #[.int .u8 (D : Int), .int .u8 (P : Int), .int .i64 KK] 31)).alloc (.cells #[.int .u8 (j0 : Int), .int .u8 0, .int .u8 0, .int .u8 0, .int .u8 0, .int .u8 0, .int .u8 0, .int .u8 0, .int .u8 0, .int .u8 0, .int .u8 0, .int .u8 0, .int .u8 0, .int .u8 0, .int .u8 0, .int .u8 0] 24)).rangeAt (wr.heap.size + 1) 0 (pc (pk j0)) := by
    have h := range_alloc (w := wr.alloc (.cells #[.int .u8 (D : Int), .int .u8 (P : Int), .int .i64 KK] 31)) (cs := pc (pk j0)) (t := 24) (w' := (wr.alloc (.cells #[.int .u8 (D : Int), .int .u8 (P : Int), .int .i64 KK] 31)).alloc (.cells (pc (pk j0)).toArray 24)) (Below.refl _ _)
    rw [hs1, pc_first j0 (by omega)] at h
    exact h
  have hTa : ((wr.alloc (.cells #[.int .u8 (D : Int), .int .u8 (P : Int), .int .i64 KK] 31)).alloc (.cells #[.int .u8 (j0 : Int), .int .u8 0, .int .u8 0, .int .u8 0, .int .u8 0, .int .u8 0, .int .u8 0, .int .u8 0, .int .u8 0, .int .u8 0, .int .u8 0, .int .u8 0, .int .u8 0, .int .u8 0, .int .u8 0, .int .u8 0] 24)).there (wr.heap.size + 1) 0 16 := by
    rw [← hs1]
    exact there_new (cs := #[.int .u8 (j0 : Int), .int .u8 0, .int .u8 0, .int .u8 0, .int .u8 0, .int .u8 0, .int .u8 0, .int .u8 0, .int .u8 0, .int .u8 0, .int .u8 0, .int .u8 0, .int .u8 0, .int .u8 0, .int .u8 0, .int .u8 0]) (Below.refl _ _)
  have hA0 : ((wr.alloc (.cells #[.int .u8 (D : Int), .int .u8 (P : Int), .int .i64 KK] 31)).alloc (.cells #[.int .u8 (j0 : Int), .int .u8 0, .int .u8 0, .int .u8 0, .int .u8 0, .int .u8 0, .int .u8 0, .int .u8 0, .int .u8 0, .int .u8 0, .int .u8 0, .int .u8 0, .int .u8 0, .int .u8 0, .int .u8 0, .int .u8 0] 24)).cell? ⟨wr.heap.size, 0, none⟩ = some (.int .u8 (D : Int)) := ((alloc_below _ _).cell (p := ⟨wr.heap.size, 0, none⟩) (by simp)).trans (by simp)
  have hA1 : ((wr.alloc (.cells #[.int .u8 (D : Int), .int .u8 (P : Int), .int .i64 KK] 31)).alloc (.cells #[.int .u8 (j0 : Int), .int .u8 0, .int .u8 0, .int .u8 0, .int .u8 0, .int .u8 0, .int .u8 0, .int .u8 0, .int .u8 0, .int .u8 0, .int .u8 0, .int .u8 0, .int .u8 0, .int .u8 0, .int .u8 0, .int .u8 0] 24)).cell? ⟨wr.heap.size, 1, none⟩ = some (.int .u8 (P : Int)) := ((alloc_below _ _).cell (p := ⟨wr.heap.size, 1, none⟩) (by simp)).trans (by simp)
  generalize ((wr.alloc (.cells #[.int .u8 (D : Int), .int .u8 (P : Int), .int .i64 KK] 31)).alloc (.cells #[.int .u8 (j0 : Int), .int .u8 0, .int .u8 0, .int .u8 0, .int .u8 0, .int .u8 0, .int .u8 0, .int .u8 0, .int .u8 0, .int .u8 0, .int .u8 0, .int .u8 0, .int .u8 0, .int .u8 0, .int .u8 0, .int .u8 0] 24)) = Wa at *
  clear c0 c1 c2 hs1
  have HBa := Lib.hid hBa
  have HXa := Lib.hid hXa
  have HTa := Lib.hid hTa
  have HPa := Lib.hid (range_later HP.out hBa)
  have h24 := Lib.hid (info24 (kk 8))
  have h24s := Lib.hid (info24s (kk 8))
  have hone := Lib.hid (all_oneCell_toArray (pc_one (kk 8)))
  have hbl : b5 < wr.heap.size := HL.out.lt
  have HBL := Lib.hid hbl
  clear hBa hXa hTa hbl
  subst hp
  have e3 : (P : Int) % 3 = 0 := e3
  go_upto_region 14 with (first
    | (refine wpList_load_mid (w := Wa) rfl 24 (.tmp 6) rfl (b5 + 1) 0 rfl (pc (kk 8)) _ HPa.out Tryz.underlying24 rfl h24.out ?_)
    | (refine wpList_store_mid (w := Wa) rfl 24 (.tmp 11) (.tmp 37) rfl (wr.heap.size + 1) 0 (pc (kk 8)).toArray rfl rfl (by rw [pcs]; exact HTa.out) h24s.out hone.out ?_))
  have HX : Hid ((Wa.setCells (wr.heap.size + 1) 0 (pc (kk 8))).rangeAt (wr.heap.size + 1) 0 (pc (kk 8))) := Lib.hid (World.rangeAt_setCells_same Wa _ _ _ (by rw [pc_len]; exact HTa.out))
  have HA : Hid ((Wa.setCells (wr.heap.size + 1) 0 (pc (kk 8))).cell? ⟨wr.heap.size, 0, none⟩ = some (.int .u8 (D : Int))) := Lib.hid ((World.cell?_setCells_out _ _ _ _ _ (fun h _ => absurd h (by show wr.heap.size ≠ wr.heap.size + 1; omega))).trans hA0)
  have HBb : Hid (Below wr.heap.size wr (Wa.setCells (wr.heap.size + 1) 0 (pc (kk 8)))) := Lib.hid (below_setCells (by omega) _ _ HBa.out)
  generalize (Wa.setCells (wr.heap.size + 1) 0 (pc (kk 8))) = Wb at *
  clear hA0 hA1 HPa HTa HXa HBa
  have HLb := Lib.hid (HL.out.later HBb.out)
  have HPb := Lib.hid (range_later HP.out HBb.out)
  have HBw := Lib.hid (HB.out.trans (HBb.out.mono HB.out.size))
  have f2 : ((dm : Int) == 2) = false := by rw [beq_eq_false_iff_ne]; omega
  have f3 : ((dm : Int) == 3) = false := by rw [beq_eq_false_iff_ne]; omega
  clear ht
  obtain ⟨oL, cL, hcL, hsL⟩ := HLb.out.sl
  have KX : Hid (Calls Tryz.prog 14 #[.agg #[.slice oL L.length cL], .agg (pc (kk 8)).toArray, .int .i64 k] Wb fun e w' => (∃ o m c, e = .returned (.tuple #[.agg #[.slice o m c], .int .i64 0]) ∧ SlE w' (.slice o m c) (wi L (die k (get L (kk 8))))) ∧ Below Wb.heap.size Wb w') := Lib.hid (died_any L (kk 8) k (by omega) hk (Or.inr (by have := HI.out.len; omega)) (by have := HI.out.d (kk 8); omega) oL cL HI.out.srt HI.out.fit (by have := HI.out.len; omega) (kk_top 8 (by omega)) Wb hsL)
  have hdie : die k (get L (kk 8)) = ⟨kk 8, min (row + 1) 255, true⟩ := by
    rw [HI.out.at_p]
    unfold die
    have e1 : min (min row 255 + 1) 255 = min (row + 1) 255 := by omega
    have e2 : (false || decide (k ≤ min (row + 1) 255)) = true := by simp; omega
    simp only [e1, e2]
  have hnew : Inv (wi L (die k (get L (kk 8)))) (row + 1) true := by
    rw [hdie]
    exact HI.out.put 8 (by omega) _ (by omega) _ (row + 1) true (fun _ => ⟨rfl, rfl⟩) (fun h8 => absurd rfl h8)
  clear hdie
  have HNEW := Lib.hid hnew
  clear hnew hsL
  generalize hL2 : (wi L (die k (get L (kk 8)))) = L2 at *
  clear hL2
  generalize L.length = nL at *
  have hA := HA.out
  have h24j := Lib.hid (info24 (kk 8))
  go_upto_region 20 with (first
    | (refine wpList_load_mid (w := Wb) rfl 24 (.tmp 11) rfl (wr.heap.size + 1) 0 rfl (pc (kk 8)) _ HX.out Tryz.underlying24 rfl h24j.out ?_)
    | (go_at_call 14; ((with_reducible refine (KX.out).mono ?_); rintro e w5 ⟨⟨o1, m1, c1', rfl, h1⟩, hb5⟩; have hL5 := HLb.out.later hb5; obtain ⟨oy, cy, k1, _⟩ := hL5.sl; have k2 := hL5.fz; have H1 := Lib.hid h1; have HB5 := Lib.hid hb5; clear h1 hb5 hL5)))
  have HL6 := Lib.hid (HLb.out.put HB5.out H1.out)
  have HX6 : Hid ((w5.setCell ⟨b5, 0, none⟩ (.slice o1 m1 c1')).rangeAt (wr.heap.size + 1) 0 (pc (kk 8))) := Lib.hid (range_set_other (range_later HX.out HB5.out) (by show b5 ≠ wr.heap.size + 1; have := HBL.out; omega) _)
  have HP6 : Hid ((w5.setCell ⟨b5, 0, none⟩ (.slice o1 m1 c1')).rangeAt (b5 + 1) 0 (pc (kk 8))) := Lib.hid (range_set_other (range_later HPb.out HB5.out) (by show b5 ≠ b5 + 1; omega) _)
  have hA6 : (w5.setCell ⟨b5, 0, none⟩ (.slice o1 m1 c1')).cell? ⟨wr.heap.size, 0, none⟩ = some (.int .u8 (D : Int)) := (World.cell?_setCell_far _ _ _ _ (by show b5 ≠ wr.heap.size; have := HBL.out; omega)).trans ((HB5.out.cell (p := ⟨wr.heap.size, 0, none⟩) (World.block_lt_of_cell? _ _ hA)).trans hA)
  have HB6 : Hid (Below w.heap.size w (w5.setCell ⟨b5, 0, none⟩ (.slice o1 m1 c1'))) := Lib.hid ((HBw.out.trans (HB5.out.mono HBw.out.size)).setCell HW1.out _)
  generalize (w5.setCell ⟨b5, 0, none⟩ (.slice o1 m1 c1')) = W6 at *
  clear k1 k2 hA hcL
  have hgp := HNEW.out.at_p
  obtain ⟨o6, c6, hc6, hs6⟩ := HL6.out.sl
  have K19 : Hid (Calls Tryz.prog 19 #[.agg #[.slice o6 L2.length c6], .agg (pc (kk 8)).toArray] W6 fun e w' => e = .returned (.agg (ec ⟨kk 8, min (row + 1) 255, true⟩).toArray) ∧ Below W6.heap.size W6 w') := Lib.hid (by
    obtain ⟨o2, c2, e2, hr⟩ := hs6.form
    cases e2
    have h := get_any L2 HNEW.out.srt HNEW.out.fit (by have := HNEW.out.len; omega) o6 c6 (kk 8) (kk_top 8 (by omega)) W6 hr
    rw [hgp] at h
    exact h)
  clear hs6 hgp
  generalize L2.length = n2 at *
  have EQ := fun W => eqSame 200 (by omega) W
  have hk8 : kk 8 = pk 200 := rfl
  rw [← hk8] at EQ
  clear hk8
  obtain ⟨rp, hrp⟩ : ∃ rp, rp = row + 1 := ⟨_, rfl⟩
  have er : (row : Int) + 1 = (rp : Int) := by omega
  have ew : IntKind.i64.wrap (rp : Int) = (rp : Int) := IntWalk.i64_in _ ⟨by omega, by omega⟩
  rw [← hrp] at K19 HNEW
  obtain ⟨md, hmd⟩ : ∃ md, md = min rp 255 := ⟨_, rfl⟩
  have em : min (rp : Int) 255 = (md : Int) := by omega
  rw [← hmd] at K19
  have hri2 : rp ≤ i + 1 := by omega
  have ek : decide ((k : Int) ≤ (rp : Int)) = true := by rw [decide_eq_true_iff]; omega
  have ek2 : k ≤ rp := by omega
  clear hkr
  clear hmd hrp
  have hone46 := Lib.hid (all_oneCell_toArray (ec_one ⟨kk 8, md, true⟩))
  go_upto_region 29 with (first
    | (refine wpList_load_mid (w := W6) rfl 24 (.tmp 11) rfl (wr.heap.size + 1) 0 rfl (pc (kk 8)) _ HX6.out Tryz.underlying24 rfl h24j.out ?_)
    | (refine wpList_load_mid (w := W6) rfl 24 (.tmp 6) rfl (b5 + 1) 0 rfl (pc (kk 8)) _ HP6.out Tryz.underlying24 rfl h24.out ?_)
    | (go_at_call 19; ((with_reducible refine (K19.out).mono ?_); rintro e w7 ⟨rfl, hb7⟩; have HB7 := Lib.hid hb7; clear hb7))
    | (refine wpList_store_mid (w := w7.alloc (.cells z46 46)) rfl 46 (.tmp 12) (.tmp 80) rfl w7.heap.size 0 (ec ⟨kk 8, md, true⟩).toArray rfl rfl (by rw [ecs]; exact there_new (cs := z46) (Below.refl _ _)) (info46s _) hone46.out ?_))
  have HE := Lib.hid (EB.stored (w := w7.alloc (.cells z46 46)) ⟨kk 8, md, true⟩ (there_new (cs := z46) (Below.refl _ _)))
  have HB8 : Hid (Below W6.heap.size W6 ((w7.alloc (.cells z46 46)).setCells w7.heap.size 0 (ec ⟨kk 8, md, true⟩))) := Lib.hid (below_setCells HB7.out.size _ _ (HB7.out.trans ((alloc_below w7 (.cells z46 46)).mono HB7.out.size)))
  generalize ((w7.alloc (.cells z46 46)).setCells w7.heap.size 0 (ec ⟨kk 8, md, true⟩)) = W8 at *
  generalize w7.heap.size = g8 at *
  obtain ⟨z16, z17, _, _⟩ := HE.out.cells
  simp only at z16 z17
  go_wp2
  refine ⟨WI.mk (i + 1) rp L2 true rfl (by go_num) (by first | rfl | go_num) rfl (by omega) (by omega) HNEW (Lib.hid (HL6.out.later HB8.out)) (Lib.hid (range_later HP6.out HB8.out)) (Lib.hid (HB6.out.trans (HB8.out.mono HB6.out.size))), ?_⟩
  simp [Wmu, intOf]; omega
end Go.Proofs.YtpcmmejlmhbcdaaGreat
