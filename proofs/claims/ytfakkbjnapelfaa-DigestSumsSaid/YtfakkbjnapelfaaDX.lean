/- Walk of digest.Print. -/
import Derived.Test.YtfakkbjnapelfaaDW
namespace Go.Proofs.Ytfakkbjnapelfaa.Dg
open Go.RowKit

theorem info48 (l : List UInt8) (h : l.length = 16) : (Try.prog.info? 48).map (·.size) = some (W.bcells l).toArray.size := by
  rw [show (W.bcells l).toArray.size = l.length by simp [W.bcells], h]; kernel_rfl
theorem size48 (l : List UInt8) (h : l.length = 16) : (W.bcells zb16).toArray.size = (W.bcells l).toArray.size := by
  rw [show (W.bcells l).toArray.size = l.length by simp [W.bcells], h]; rfl
theorem bb_new48 (w : World) (l : List UInt8) : BB w.heap.size 48 l (w.alloc (.cells (W.bcells l).toArray 48)) := bb_new w l 48

set_option maxRecDepth 1000000 in
set_option maxHeartbeats 2000000 in
theorem print_any (l : List UInt8) (hl : l.length ≤ 2000) (w : World) : Calls Try.prog 21 #[.string (W.str l)] w fun e w' => e = .returned (.agg (W.bcells ((sumL l).take 16)).toArray) ∧ Below w.heap.size w w' := by
  have KS1 : Hid (∀ (b : Nat) (w : World), b < w.heap.size → w.cell? ⟨b, 0, none⟩ = some (.string (W.str l)) → Calls Try.prog 18 #[.slice (some ⟨b, 0, none⟩) 1 1] w fun e w' => e = .returned (.agg (W.bcells (sumL l)).toArray) ∧ Below w.heap.size w w') := Lib.hid (fun b w hb h0 =>
    sum_core _ l hl w (fun w' hbw => by
      have hJ := Try.strings_Join b 0 1 [W.str l] ⟨#[]⟩ w' (by
        intro j x hx
        have hc : ∀ k, w'.cell? ⟨b, k, none⟩ = w.cell? ⟨b, k, none⟩ := fun k => World.cell?_of_block (hbw.block b hb)
        match j, hx with
        | 0, hx => simp at hx; subst hx; rw [hc]; exact h0) (Nat.lt_of_lt_of_le hb hbw.size) (by simp) (by simp) (by
          show (Lib.join [l] []).length ≤ _
          simp [Lib.join]; omega)
      have e : Lib.join [l] [] = l := by simp [Lib.join]
      have e2 : (⟨(Lib.join ([W.str l].map (·.data.toList)) (⟨#[]⟩ : ByteArray).data.toList).toArray⟩ : ByteArray) = W.str l := by
        show W.str (Lib.join [l] []) = W.str l
        rw [e]
      rw [e2] at hJ
      exact hJ))
  have hlen := sumL_len l
  generalize sumL l = o at *
  have HI42 := Lib.hid (info42 o hlen)
  have HSZ := Lib.hid (size42 o hlen)
  have HONE := Lib.hid (bcells_one o)
  have HLEN := Lib.hid hlen
  have h16 : (o.take 16).length = 16 := by simp [hlen]
  have HI48 := Lib.hid (info48 _ h16)
  have HSZ48 := Lib.hid (size48 _ h16)
  have HONE48 := Lib.hid (bcells_one (o.take 16))
  clear hl hlen h16
  generalize W.str l = s at *
  go_enter Try.func21, Try.ntmps21
  go_upto_region 2 with (fail)
  rw [zb16_is]
  have s1 : (w.alloc (.cells (W.bcells zb16).toArray 48)).heap.size = w.heap.size + 1 := by simp
  have b1 := bb_new48 w zb16
  have b2 := bb_new48 (w.alloc (.cells (W.bcells zb16).toArray 48)) zb16
  rw [s1] at b2
  have st := (Below.refl (w.alloc (.cells (W.bcells zb16).toArray 48)).heap.size (w.alloc (.cells (W.bcells zb16).toArray 48))).alloc (Nat.le_refl _) (.cells (W.bcells zb16).toArray 48)
  refine gen_wp (S := fun wz => Hid (BB w.heap.size 48 zb16 wz) ∧ Hid (BB (w.heap.size + 1) 48 zb16 wz) ∧ Hid (Below w.heap.size w wz)) ⟨Lib.hid (b1.later st), Lib.hid b2, Lib.hid (((Below.refl _ _).alloc (Nat.le_refl _) _).alloc (by simp) _)⟩ ?_
  intro W1 H1
  obtain ⟨hA, hP, hB⟩ := H1
  clear s1 b1 b2 st
  go_upto_region 3 with (first
    | (go_at_call 18; ((with_reducible refine (KS1.out _ _ ?_ ?_).mono ?_); (simp [go_sem]); (simp [go_sem]); rintro e w2 ⟨rfl, hb2⟩))
    | (refine wpList_plain rfl fun _ hK => wp_store_row 42 (.tmp 4) (.tmp 7) rfl _ (W.bcells o).toArray rfl rfl 42 (W.bcells zb32).toArray (bb_lit _ zb32_is) HI42.out HSZ.out HONE.out (hK _ _ ?_)))
  rw [zb32_is]
  have hX : Below W1.heap.size W1 w2 := ((Below.refl _ _).alloc (Nat.le_refl _) _).trans (hb2.mono (by simp))
  have st := (Below.refl w2.heap.size w2).alloc (Nat.le_refl _) (.cells (W.bcells zb32).toArray 42)
  have hl1 := (hP.out.later hX).lt
  have hl0 := (hA.out.later hX).lt
  have hA2 := (hA.out.later hX).later st
  have hP2 := (hP.out.later hX).later st
  have hB2 := (hB.out.trans (hX.mono hB.out.size)).trans (st.mono (by have := hB.out.size; have := hX.size; omega))
  have hG2 := setRow_heap _ _ _ (W.bcells o).toArray _ _ (bb_new w2 zb32 42)
  refine gen_wp (S := fun wz => Hid (BB w.heap.size 48 zb16 wz) ∧ Hid (BB (w.heap.size + 1) 48 zb16 wz) ∧ Hid (BB w2.heap.size 42 o wz) ∧ Hid (Below w.heap.size w wz)) ⟨Lib.hid (by unfold BB; rw [setRow_other _ _ _ _ (by omega)]; exact hA2), Lib.hid (by unfold BB; rw [setRow_other _ _ _ _ (by omega)]; exact hP2), Lib.hid hG2, Lib.hid (below_row hB2 (by omega) _)⟩ ?_
  intro W3 H3
  obtain ⟨hA3, hP3, hG3, hB3⟩ := H3
  clear hX st hl1 hl0 hA2 hP2 hB2 hG2 hA hP hB hb2
  generalize w2.heap.size = g at *
  obtain ⟨W4, hcp, r1, r2, r3, r4, r5, r6⟩ := print_copy (w.heap.size + 1) g o HLEN.out W3.drew hP3.out hG3.out
  have hR := Lib.hid ((r2 w.heap.size (by omega)).trans hA3.out)
  have hQ := Lib.hid r1
  have hB4 : Hid (Below w.heap.size w W4) := Lib.hid ⟨r4.trans hB3.out.os, r5.trans hB3.out.tape, r6.trans hB3.out.output, by rw [r3]; exact hB3.out.size, fun b hb => (r2 b (by omega)).trans (hB3.out.block b hb)⟩
  clear r1 r2 r3 r4 r5 r6 hA3 hP3 hG3 hB3
  dsimp only [Act.put]
  go_region_held3 (fun _ => True) (first | exact True.intro) (first | fail)
  simp only [Exit.then]
  apply_assumption
  have HRR := Lib.hid (setRow_heap W4 w.heap.size (W.bcells zb16).toArray (W.bcells (o.take 16)).toArray 48 _ hR.out)
  have HBB := Lib.hid (below_row hB4.out (Nat.le_refl _) (W.bcells (o.take 16)).toArray)
  go_wp2_with (first
    | (refine wpList_load_row rfl 48 (.tmp 3) rfl (w.heap.size + 1) rfl 48 (W.bcells (o.take 16)).toArray (0, 0) _ hQ.out Try.underlying48 rfl HI48.out ?_)
    | (refine wpList_plain rfl fun _ hK => wp_store_row 48 (.tmp 2) (.tmp 11) rfl w.heap.size (W.bcells (o.take 16)).toArray rfl rfl 48 (W.bcells zb16).toArray hR.out HI48.out HSZ48.out HONE48.out (hK _ _ ?_)))
  refine bodyPost_ret (v := .agg (W.bcells (o.take 16)).toArray) ?_ rfl ⟨rfl, HBB.out⟩
  exact results_cell_row rfl _ _ w.heap.size 48 (W.bcells (o.take 16)).toArray (0, 0) _ rfl HRR.out Try.underlying48 rfl HI48.out
end Go.Proofs.Ytfakkbjnapelfaa.Dg
