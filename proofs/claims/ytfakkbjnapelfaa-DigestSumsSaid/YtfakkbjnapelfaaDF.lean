/- Walks of digest.start, digest.Keys. -/
import Derived.Test.YtfakkbjnapelfaaDE
namespace Go.Proofs.Ytfakkbjnapelfaa.Dg
open Go.RowKit

theorem start_zero : (#[.int .u32 0, .int .u32 0, .int .u32 0, .int .u32 0, .int .u32 0, .int .u32 0, .int .u32 0, .int .u32 0] : Array Value) = u32c (List.replicate 8 0) := by kernel_rfl
theorem start_info : (Try.prog.info? 82).map (·.size) = some 8 := by kernel_rfl
theorem start_at (k : Nat) (hk : k < 8) : ∃ h : k < (upto (17 + 1)).length, root ((upto (17 + 1))[k]'h) 2 = HS[k]'hk := by
  have hl : (upto (17 + 1)).length = 8 := upto_8.2
  have hl2 : (upto 18).length = 8 := upto_8.2
  refine ⟨by omega, ?_⟩
  have h := start_is
  have h2 : ((upto (17 + 1)).map fun p => root p 2)[k]'(by simp; omega) = HS[k]'hk := by
    simp only [h]; rfl
  rw [List.getElem_map] at h2
  exact h2
def start_done (k : Nat) : List Nat := HS.take k ++ List.replicate (8 - k) 0
theorem start_step (k : Nat) (hk : k < 8) : (start_done k).set k (HS[k]'hk) = start_done (k + 1) := by
  have hl : HS.length = 8 := rfl
  unfold start_done
  rw [List.set_append_right _ _ (by simp; omega)]
  rw [show 8 - k = (8 - (k + 1)) + 1 by omega, List.replicate_succ]
  rw [show k - (HS.take k).length = 0 by simp; omega]
  rw [List.take_succ_eq_append_getElem (by omega), List.append_assoc, List.set_cons_zero]
  rfl

set_option maxRecDepth 1000000 in
set_option maxHeartbeats 1000000 in
theorem start_any (w : World) : Calls Try.prog 43 #[] w fun e w' => e = .returned (.agg (u32c HS)) ∧ Below w.heap.size w w' := by
  have KP := Lib.hid (fun w => primes_any 8 17 (by omega) (by rw [upto_8.1]) upto_8.2 (by omega) w)
  go_enter Try.func43, Try.ntmps43
  go_wp2_with fail
  rw [start_zero]
  have hd0 : start_done 0 = List.replicate 8 0 := rfl
  rw [← hd0]
  have U1 := Lib.hid (ub_new w (start_done 0) 82)
  have B1 := Lib.hid (show Below w.heap.size w (w.alloc (.cells (u32c (start_done 0)) 82)) from (Below.refl _ _).alloc (Nat.le_refl _) _)
  have S1 : (w.alloc (.cells (u32c (start_done 0)) 82)).heap.size = w.heap.size + 1 := by simp
  have U2 := Lib.hid (ub_new (w.alloc (.cells (u32c (start_done 0)) 82)) (start_done 0) 82)
  rw [S1] at U2
  have V1 := Lib.hid (UB.later U1.out (show Below _ _ ((w.alloc (.cells (u32c (start_done 0)) 82)).alloc (.cells (u32c (start_done 0)) 82)) from (Below.refl _ _).alloc (Nat.le_refl _) _))
  have B2 := Lib.hid (show Below w.heap.size w ((w.alloc (.cells (u32c (start_done 0)) 82)).alloc (.cells (u32c (start_done 0)) 82)) from B1.out.alloc (by simp) _)
  have S2 : ((w.alloc (.cells (u32c (start_done 0)) 82)).alloc (.cells (u32c (start_done 0)) 82)).heap.size = w.heap.size + 2 := by simp
  clear U1 B1 S1 hd0
  generalize (w.alloc (.cells (u32c (start_done 0)) 82)).alloc (.cells (u32c (start_done 0)) 82) = W2 at *
  refine (KP.out _).mono ?_
  rintro e w1 ⟨v, rfl, hown, hb⟩
  rw [S2] at hown
  obtain ⟨at0, cap, g, rfl, -, hat, hc, hg⟩ := owns_read hown
  have hl : (upto (17 + 1)).length = 8 := upto_8.2
  have HAT : Hid (at0 = some ⟨g, 0, none⟩) := Lib.hid (hat (by omega))
  have HG := Lib.hid (hg (by omega))
  have HC := Lib.hid hc
  replace U2 := Lib.hid (U2.out.later hb)
  replace V1 := Lib.hid (V1.out.later hb)
  replace B2 := Lib.hid (B2.out.trans (hb.mono (by omega)))
  clear hat hc hg hown hb hl S2
  obtain rfl := HAT.out
  go_wp2
  go_loopw [6] (fun i wr => ∃ (k : Nat), k ≤ 8 ∧ i = .int .i64 k ∧ Hid (UB (w.heap.size + 1) 82 (start_done k) wr) ∧ Hid (UB w.heap.size 82 (start_done 0) wr) ∧ Hid (Below w.heap.size w wr) ∧ Hid (∀ j (hj : j < (upto (17 + 1)).length), wr.cell? ⟨g, j, none⟩ = some (.int .u64 ((upto (17 + 1))[j] : Int)))) (fun i _ => 8 - (intOf i).toNat)
  case atStart => exact ⟨0, by omega, rfl, U2, V1, B2, HC⟩
  case round =>
    obtain ⟨k, hk, rfl, hU, hV, hB, hC⟩ := hrel
    by_cases hlt : k < 8
    · obtain ⟨hp, hr⟩ := start_at k hlt
      have hcell := hC.out k hp
      have hpb := upto_bd (17 + 1) _ (List.getElem_mem hp)
      have KR : Hid (∀ w, Calls Try.prog 49 #[.int .u64 ((upto (17 + 1))[k] : Int), .int .i64 2] w fun e w' => e = .returned (.int .u32 (HS[k]'hlt : Nat)) ∧ w = w') := Lib.hid (fun w => by
        have := root_any ((upto (17 + 1))[k]) 2 (by omega) (by omega) w
        rw [hr] at this
        exact this)
      have hst := start_step k hlt
      have hlen : k < (start_done k).length := by unfold start_done; have hL : HS.length = 8 := rfl; simp; omega
      have hput := hU.out.put k (HS[k]'hlt)
      rw [hst] at hput
      have HP := Lib.hid hput
      have HV2 := Lib.hid (hV.out.other (a := ⟨w.heap.size + 1, k, none⟩) (.int .u32 ((HS[k]'hlt : Nat) : Int)) (by simp))
      have HB2 := Lib.hid (hB.out.setCell (p := ⟨w.heap.size + 1, k, none⟩) (show w.heap.size ≤ w.heap.size + 1 by omega) (.int .u32 ((HS[k]'hlt : Nat) : Int)))
      have HC2 : Hid (∀ j (hj : j < (upto (17 + 1)).length), (wr.setCell ⟨w.heap.size + 1, k, none⟩ (.int .u32 ((HS[k]'hlt : Nat) : Int))).cell? ⟨g, j, none⟩ = some (.int .u64 ((upto (17 + 1))[j] : Int))) := Lib.hid (fun j hj => by
        rw [World.cell?_of_block (w := wr) (heap_setCell_other wr ⟨w.heap.size + 1, k, none⟩ g _ (by have := HG.out; simp; omega))]
        exact hC.out j hj)
      have c0 := hU.out.cell k hlen
      have f0 := hU.out.frozen k
      clear hput hst hr hpb hC hU hV hB
      generalize (upto (17 + 1))[k] = p at *
      generalize HS[k]'hlt = x at *
      generalize (start_done k)[k] = y at *
      clear hlen
      go_wp2_with ((go_at_call 49; ((with_reducible refine (KR.out _).mono ?_); rintro e w1 ⟨rfl, rfl⟩)))
      go_roundw
      case rel => exact ⟨k + 1, by omega, by go_num, HP, HV2, HB2, HC2⟩
      case measure => simp [intOf]; omega
    · obtain rfl : k = 8 := by omega
      have hfin : start_done 8 = HS := rfl
      rw [hfin] at hU
      have hU3 := hV.out.row HS
      have hB3 := below_row hB.out (Nat.le_refl _) (u32c HS)
      have HU3 := Lib.hid hU3
      have HB3 := Lib.hid hB3
      clear hU3 hB3 hlt hB
      go_wp2_with (first
        | (refine wpList_load_ub rfl 82 (.tmp 1) rfl hU.out Try.underlying82 start_info rfl ?_)
        | (refine wpList_store_ub rfl 82 (.tmp 0) (.tmp 16) rfl hV.out (l2 := HS) start_info rfl rfl rfl ?_))
      refine bodyPost_ret (v := .agg (u32c HS)) ?_ rfl ⟨rfl, HB3.out⟩
      exact results_cell_row rfl _ _ w.heap.size 82 (u32c HS) (0, 0) _ rfl HU3.out Try.underlying82 rfl start_info
end Go.Proofs.Ytfakkbjnapelfaa.Dg
