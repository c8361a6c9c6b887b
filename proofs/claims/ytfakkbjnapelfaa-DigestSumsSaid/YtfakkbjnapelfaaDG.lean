/- Walk of digest.Keys. -/
import Derived.Test.YtfakkbjnapelfaaDE
namespace Go.Proofs.Ytfakkbjnapelfaa.Dg
open Go.RowKit

set_option maxRecDepth 100000 in
theorem keys_zero : (#[.int .u32 0, .int .u32 0, .int .u32 0, .int .u32 0, .int .u32 0, .int .u32 0, .int .u32 0, .int .u32 0, .int .u32 0, .int .u32 0, .int .u32 0, .int .u32 0, .int .u32 0, .int .u32 0, .int .u32 0, .int .u32 0, .int .u32 0, .int .u32 0, .int .u32 0, .int .u32 0, .int .u32 0, .int .u32 0, .int .u32 0, .int .u32 0, .int .u32 0, .int .u32 0, .int .u32 0, .int .u32 0, .int .u32 0, .int .u32 0, .int .u32 0, .int .u32 0, .int .u32 0, .int .u32 0, .int .u32 0, .int .u32 0, .int .u32 0, .int .u32 0, .int .u32 0, .int .u32 0, .int .u32 0, .int .u32 0, .int .u32 0, .int .u32 0, .int .u32 0, .int .u32 0, .int .u32 0, .int .u32 0, .int .u32 0, .int .u32 0, .int .u32 0, .int .u32 0, .int .u32 0, .int .u32 0, .int .u32 0, .int .u32 0, .int .u32 0, .int .u32 0, .int .u32 0, .int .u32 0, .int .u32 0, .int .u32 0, .int .u32 0, .int .u32 0] : Array Value) = u32c (List.replicate 64 0) := by kernel_rfl
theorem keys_info : (Try.prog.info? 52).map (·.size) = some 64 := by kernel_rfl
set_option maxRecDepth 100000 in
theorem keys_at (k : Nat) (hk : k < 64) : ∃ h : k < (upto (309 + 1)).length, root ((upto (309 + 1))[k]'h) 3 = KS[k]'hk := by
  have hl : (upto (309 + 1)).length = 64 := upto_64.2
  have hl2 : (upto 310).length = 64 := upto_64.2
  refine ⟨by omega, ?_⟩
  have h := keys_are
  have h2 : ((upto (309 + 1)).map fun p => root p 3)[k]'(by simp; omega) = KS[k]'hk := by
    simp only [h]; rfl
  rw [List.getElem_map] at h2
  exact h2
set_option maxRecDepth 100000 in
def keys_done (k : Nat) : List Nat := KS.take k ++ List.replicate (64 - k) 0
set_option maxRecDepth 100000 in
theorem keys_step (k : Nat) (hk : k < 64) : (keys_done k).set k (KS[k]'hk) = keys_done (k + 1) := by
  have hl : KS.length = 64 := rfl
  unfold keys_done
  rw [List.set_append_right _ _ (by simp; omega)]
  rw [show 64 - k = (64 - (k + 1)) + 1 by omega, List.replicate_succ]
  rw [show k - (KS.take k).length = 0 by simp; omega]
  rw [List.take_succ_eq_append_getElem (by omega), List.append_assoc, List.set_cons_zero]
  rfl

set_option maxRecDepth 1000000 in
set_option maxHeartbeats 1000000 in
theorem keys_any (w : World) : Calls Try.prog 23 #[] w fun e w' => e = .returned (.agg (u32c KS)) ∧ Below w.heap.size w w' := by
  have KP := Lib.hid (fun w => primes_any 64 309 (by omega) (by rw [upto_64.1]) upto_64.2 (by omega) w)
  go_enter Try.func23, Try.ntmps23
  go_wp2_with fail
  rw [keys_zero]
  have hd0 : keys_done 0 = List.replicate 64 0 := rfl
  rw [← hd0]
  have U1 := Lib.hid (ub_new w (keys_done 0) 52)
  have B1 := Lib.hid (show Below w.heap.size w (w.alloc (.cells (u32c (keys_done 0)) 52)) from (Below.refl _ _).alloc (Nat.le_refl _) _)
  have S1 : (w.alloc (.cells (u32c (keys_done 0)) 52)).heap.size = w.heap.size + 1 := by simp
  have U2 := Lib.hid (ub_new (w.alloc (.cells (u32c (keys_done 0)) 52)) (keys_done 0) 52)
  rw [S1] at U2
  have V1 := Lib.hid (UB.later U1.out (show Below _ _ ((w.alloc (.cells (u32c (keys_done 0)) 52)).alloc (.cells (u32c (keys_done 0)) 52)) from (Below.refl _ _).alloc (Nat.le_refl _) _))
  have B2 := Lib.hid (show Below w.heap.size w ((w.alloc (.cells (u32c (keys_done 0)) 52)).alloc (.cells (u32c (keys_done 0)) 52)) from B1.out.alloc (by simp) _)
  have S2 : ((w.alloc (.cells (u32c (keys_done 0)) 52)).alloc (.cells (u32c (keys_done 0)) 52)).heap.size = w.heap.size + 2 := by simp
  clear U1 B1 S1 hd0
  generalize (w.alloc (.cells (u32c (keys_done 0)) 52)).alloc (.cells (u32c (keys_done 0)) 52) = W2 at *
  refine (KP.out _).mono ?_
  rintro e w1 ⟨v, rfl, hown, hb⟩
  rw [S2] at hown
  obtain ⟨at0, cap, g, rfl, -, hat, hc, hg⟩ := owns_read hown
  have hl : (upto (309 + 1)).length = 64 := upto_64.2
  have HAT : Hid (at0 = some ⟨g, 0, none⟩) := Lib.hid (hat (by omega))
  have HG := Lib.hid (hg (by omega))
  have HC := Lib.hid hc
  replace U2 := Lib.hid (U2.out.later hb)
  replace V1 := Lib.hid (V1.out.later hb)
  replace B2 := Lib.hid (B2.out.trans (hb.mono (by omega)))
  clear hat hc hg hown hb hl S2
  obtain rfl := HAT.out
  go_wp2
  go_loopw [6] (fun i wr => ∃ (k : Nat), k ≤ 64 ∧ i = .int .i64 k ∧ Hid (UB (w.heap.size + 1) 52 (keys_done k) wr) ∧ Hid (UB w.heap.size 52 (keys_done 0) wr) ∧ Hid (Below w.heap.size w wr) ∧ Hid (∀ j (hj : j < (upto (309 + 1)).length), wr.cell? ⟨g, j, none⟩ = some (.int .u64 ((upto (309 + 1))[j] : Int)))) (fun i _ => 64 - (intOf i).toNat)
  case atStart => exact ⟨0, by omega, rfl, U2, V1, B2, HC⟩
  case round =>
    obtain ⟨k, hk, rfl, hU, hV, hB, hC⟩ := hrel
    by_cases hlt : k < 64
    · obtain ⟨hp, hr⟩ := keys_at k hlt
      have hcell := hC.out k hp
      have hpb := upto_bd (309 + 1) _ (List.getElem_mem hp)
      have KR : Hid (∀ w, Calls Try.prog 49 #[.int .u64 ((upto (309 + 1))[k] : Int), .int .i64 3] w fun e w' => e = .returned (.int .u32 (KS[k]'hlt : Nat)) ∧ w = w') := Lib.hid (fun w => by
        have := root_any ((upto (309 + 1))[k]) 3 (by omega) (by omega) w
        rw [hr] at this
        exact this)
      have hst := keys_step k hlt
      have hlen : k < (keys_done k).length := by unfold keys_done; have hL : KS.length = 64 := rfl; simp; omega
      have hput := hU.out.put k (KS[k]'hlt)
      rw [hst] at hput
      have HP := Lib.hid hput
      have HV2 := Lib.hid (hV.out.other (a := ⟨w.heap.size + 1, k, none⟩) (.int .u32 ((KS[k]'hlt : Nat) : Int)) (by simp))
      have HB2 := Lib.hid (hB.out.setCell (p := ⟨w.heap.size + 1, k, none⟩) (show w.heap.size ≤ w.heap.size + 1 by omega) (.int .u32 ((KS[k]'hlt : Nat) : Int)))
      have HC2 : Hid (∀ j (hj : j < (upto (309 + 1)).length), (wr.setCell ⟨w.heap.size + 1, k, none⟩ (.int .u32 ((KS[k]'hlt : Nat) : Int))).cell? ⟨g, j, none⟩ = some (.int .u64 ((upto (309 + 1))[j] : Int))) := Lib.hid (fun j hj => by
        rw [World.cell?_of_block (w := wr) (heap_setCell_other wr ⟨w.heap.size + 1, k, none⟩ g _ (by have := HG.out; simp; omega))]
        exact hC.out j hj)
      have c0 := hU.out.cell k hlen
      have f0 := hU.out.frozen k
      clear hput hst hr hpb hC hU hV hB
      generalize (upto (309 + 1))[k] = p at *
      generalize KS[k]'hlt = x at *
      generalize (keys_done k)[k] = y at *
      clear hlen
      go_wp2_with ((go_at_call 49; ((with_reducible refine (KR.out _).mono ?_); rintro e w1 ⟨rfl, rfl⟩)))
      go_roundw
      case rel => exact ⟨k + 1, by omega, by go_num, HP, HV2, HB2, HC2⟩
      case measure => simp [intOf]; omega
    · obtain rfl : k = 64 := by omega
      have hfin : keys_done 64 = KS := rfl
      rw [hfin] at hU
      have hU3 := hV.out.row KS
      have hB3 := below_row hB.out (Nat.le_refl _) (u32c KS)
      have HU3 := Lib.hid hU3
      have HB3 := Lib.hid hB3
      clear hU3 hB3 hlt hB
      go_wp2_with (first
        | (refine wpList_load_ub rfl 52 (.tmp 1) rfl hU.out Try.underlying52 keys_info rfl ?_)
        | (refine wpList_store_ub rfl 52 (.tmp 0) (.tmp 16) rfl hV.out (l2 := KS) keys_info rfl rfl rfl ?_))
      refine bodyPost_ret (v := .agg (u32c KS)) ?_ rfl ⟨rfl, HB3.out⟩
      exact results_cell_row rfl _ _ w.heap.size 52 (u32c KS) (0, 0) _ rfl HU3.out Try.underlying52 rfl keys_info
end Go.Proofs.Ytfakkbjnapelfaa.Dg
