/- Walk of digest.Sum.; The sum of the chapter's example, reckoned.; Walks of digest.Text and of the chapter's example. -/
import Derived.Test.YtjkpopdjmmgbbabGreatJ06
import Derived.Deep.MidRow
set_option linter.unusedVariables false
set_option linter.unusedSimpArgs false
namespace Go.Proofs.YtjkpopdjmmgbbabGreat.Dg
open Go.RowKit

theorem bcells_one (l : List UInt8) : (W.bcells l).toArray.all (·.oneCell') = true := by
  rw [Array.all_eq_true_iff_forall_mem]
  intro v hv
  simp [W.bcells] at hv
  obtain ⟨x, _, rfl⟩ := hv
  rfl
/-- What holds while blocks are read: the result's block, the rounds' constants, what is there by now. -/
def SW (w : World) (g : Nat) (h : List Nat) (wr : World) : Prop := BB w.heap.size 79 zb32 wr ∧ UB g 94 KS wr ∧ UB (g + 1) 96 h wr ∧ w.heap.size < g ∧ Below w.heap.size w wr
section
variable {w wr w1 : World} {g : Nat} {h : List Nat}
theorem SW.later (hs : SW w g h wr) (hb : Below wr.heap.size wr w1) : SW w g h w1 :=
  ⟨hs.1.later hb, hs.2.1.later hb, hs.2.2.1.later hb, hs.2.2.2.1, hs.2.2.2.2.trans (hb.mono hs.2.2.2.2.size)⟩
theorem SW.drew (hs : SW w g h wr) : SW w g h wr.drew := ⟨hs.1, hs.2.1, hs.2.2.1, hs.2.2.2.1, ⟨hs.2.2.2.2.os, hs.2.2.2.2.tape, hs.2.2.2.2.output, hs.2.2.2.2.size, hs.2.2.2.2.block⟩⟩
theorem SW.undrew (hs : SW w g h wr.drew) : SW w g h wr := ⟨hs.1, hs.2.1, hs.2.2.1, hs.2.2.2.1, ⟨hs.2.2.2.2.os, hs.2.2.2.2.tape, hs.2.2.2.2.output, hs.2.2.2.2.size, hs.2.2.2.2.block⟩⟩
theorem SW.put (hs : SW w g h wr) (j x : Nat) : SW w g (h.set j x) (wr.setCell ⟨g + 1, j, none⟩ (.int .u32 (x : Int))) :=
  ⟨(heap_setCell_other wr ⟨g + 1, j, none⟩ w.heap.size _ (by have := hs.2.2.2.1; show w.heap.size ≠ g + 1; omega)).trans hs.1, hs.2.1.other _ (by simp), hs.2.2.1.put j x, hs.2.2.2.1, hs.2.2.2.2.setCell (by have := hs.2.2.2.1; show w.heap.size ≤ g + 1; omega) _⟩
end
/-- The blocks that hold what came: made, then stored. -/
theorem sw_start (w w4 : World) (hb : Below w.heap.size w w4) (h0 : BB w.heap.size 79 zb32 w4) :
    SW w w4.heap.size HS ((((w4.alloc (.cells (u32c (List.replicate 64 0)) 94)).alloc (.cells (u32c zs8) 96)).setRow w4.heap.size (u32c KS)).setRow (w4.heap.size + 1) (u32c HS)) := by
  have s1 : (w4.alloc (.cells (u32c (List.replicate 64 0)) 94)).heap.size = w4.heap.size + 1 := by simp
  have st : ∀ (wx : World) (o : Obj), Below wx.heap.size wx (wx.alloc o) := fun wx o => (Below.refl _ _).alloc (Nat.le_refl _) _
  have u1 := (ub_new w4 (List.replicate 64 0) 94).later (st _ (.cells (u32c zs8) 96))
  have u2 := ub_new (w4.alloc (.cells (u32c (List.replicate 64 0)) 94)) zs8 96
  rw [s1] at u2
  have hlt := h0.lt
  have b1 := (hb.alloc (by omega) (.cells (u32c (List.replicate 64 0)) 94)).alloc (by simp; omega) (.cells (u32c zs8) 96)
  refine ⟨?_, (u1.row KS).rowOther HS (by omega), (u2.rowOther KS (by omega)).row HS, hlt, below_row (below_row b1 (by omega) _) (by omega) _⟩
  have h1 := (h0.later (st w4 (.cells (u32c (List.replicate 64 0)) 94))).later (st _ (.cells (u32c zs8) 96))
  unfold BB
  rw [setRow_other _ _ _ _ (by omega), setRow_other _ _ _ _ (by omega)]
  exact h1

theorem start_u1 (wd : World) {A B : Array Value} (hA : A = u32c (List.replicate 64 0)) : UB wd.heap.size 94 (List.replicate 64 0) ((wd.alloc (.cells A 94)).alloc (.cells B 96)) := by
  subst hA
  exact (ub_new wd (List.replicate 64 0) 94).later ((Below.refl _ _).alloc (Nat.le_refl _) _)
theorem start_u2 (wd : World) {A B : Array Value} (hB : B = u32c zs8) : UB (wd.heap.size + 1) 96 zs8 (((wd.alloc (.cells A 94)).alloc (.cells B 96)).setRow wd.heap.size (u32c KS)) := by
  subst hB
  have s1 : (wd.alloc (.cells A 94)).heap.size = wd.heap.size + 1 := by simp
  have u2 := ub_new (wd.alloc (.cells A 94)) zs8 96
  rw [s1] at u2
  exact u2.rowOther KS (by omega)

set_option maxRecDepth 1000000 in
set_option maxHeartbeats 4000000 in
theorem sum_core (v : Value) (l : List UInt8) (hl : l.length ≤ 200000) (w : World) (hj : ∀ w', Below w.heap.size w w' → Calls Tryz.prog 56 #[v, .string ⟨#[]⟩] w' fun e w'' => e = .returned (.string (W.str l)) ∧ Below w'.heap.size w' w'') :
    Calls Tryz.prog 43 #[v] w fun e w' => e = .returned (.agg (W.bcells (sumL l)).toArray) ∧ Below w.heap.size w w' := by
  have HJ := Lib.hid hj
  have KW := Lib.hid (whole_any l hl)
  have KK := Lib.hid keys_any
  have KS0 := Lib.hid start_any
  have HL := Lib.hid hl
  clear hj hl
  go_enter Tryz.func43, Tryz.ntmps43
  go_upto_region 1 with (fail)
  rw [zb32_is]
  refine gen_wp (S := fun wz => Hid (BB w.heap.size 79 zb32 wz ∧ Below w.heap.size w wz)) (Lib.hid ⟨bb_new w zb32 79, (Below.refl _ _).alloc (Nat.le_refl _) _⟩) ?_
  intro W0 H0
  go_wp2_with (first
    | (go_at_call 56; go_must (refine (HJ.out _ H0.out.2).mono ?_); rintro e wa ⟨rfl, hba⟩)
    | (go_at_call 55; go_must (refine (KW.out _).mono ?_); rintro e wb ⟨rfl, hbb⟩)
    | (go_at_call 57; go_must (refine (KK.out _).mono ?_); rintro e wc ⟨rfl, hbc⟩)
    | (go_at_call 58; go_must (refine (KS0.out _).mono ?_); rintro e wd ⟨rfl, hbd⟩)
    | (refine wpList_store_ub rfl 94 (.tmp 4) (.tmp 15) rfl (start_u1 _ keys_zero) (l2 := KS) keys_info rfl rfl rfl ?_)
    | (refine wpList_store_ub rfl 96 (.tmp 5) (.tmp 16) rfl (start_u2 _ zs8_is) (l2 := HS) start_info rfl rfl rfl ?_))
  rw [keys_zero, zs8_is]
  have c1 := H0.out.2.trans (hba.mono H0.out.2.size)
  have c2 := c1.trans (hbb.mono c1.size)
  have c3 := c2.trans (hbc.mono c2.size)
  have c4 := c3.trans (hbd.mono c3.size)
  refine gen_wp (S := fun wz => Hid (SW w wd.heap.size HS wz)) (Lib.hid (sw_start w wd c4 ((((H0.out.1.later hba).later hbb).later hbc).later hbd))) ?_
  intro W1 H1
  obtain ⟨N, hN⟩ : ∃ N, (wholeL l).length / 64 = N := ⟨_, rfl⟩
  have hM : (W.str (wholeL l)).size = 64 * N := by rw [W.size_str]; have := wholeL_64 l; omega
  have hN40 : N ≤ 4000 := by have := wholeL_len l; unfold nts at this; have := HL.out; omega
  have HSUM : Hid (sumL l = bytes4 (hsn (W.str (wholeL l)) N)) := Lib.hid (by unfold sumL; rw [hN])
  clear c1 c2 c3 c4 hba hbb hbc hbd H0 HJ KW KK KS0 hN HL
  generalize W.str (wholeL l) = t at *
  generalize wd.heap.size = g at *
  generalize W.str l = s at *
  obtain ⟨M, hMM⟩ : ∃ M, 64 * N = M := ⟨_, rfl⟩
  rw [hMM] at hM
  have hM2 : (M : Int) ≤ 256000 := by omega
  have hM0 : (0 : Int) ≤ M := by omega
  have HMM := Lib.hid hMM
  clear hMM hN40
  go_loopw [6] (fun i wr => ∃ (k p : Nat), k ≤ N ∧ i = .int .i64 (p : Int) ∧ Hid (p = 64 * k) ∧ Hid (SW w g (hsn t k) wr)) (fun i _ => M - (intOf i).toNat)
  case atStart => exact ⟨0, 0, by omega, rfl, Lib.hid rfl, H1⟩
  case round =>
    obtain ⟨k, p, hk, rfl, hp, hW⟩ := hrel
    by_cases hlt : k < N
    · have hpM : (p : Int) + 64 ≤ M := by have := hp.out; have := HMM.out; omega
      have hpM2 : (p : Int) < M := by omega
      have hp0 : (0 : Int) ≤ p := by omega
      have KSp : Hid (∀ w, Calls Tryz.prog 60 #[.string (t.extract p (p + 64))] w fun e w' => e = .returned (.agg (u32c (sch (t.extract p (p + 64)) 64))) ∧ Below w.heap.size w w') := Lib.hid (fun w => spread_any _ (by rw [extract_size t p (p + 64) (by omega)]; omega) w)
      obtain ⟨H, hH⟩ : ∃ H, hsn t k = H := ⟨_, rfl⟩
      have HOK := hsn_ok t k
      have hnx : hsn t (k + 1) = addL (hsn t k) (rds KS (sch (t.extract (64 * k) (64 * k + 64)) 64) (hsn t k)) := rfl
      rw [← hp.out] at hnx
      rw [hH] at hW HOK hnx
      have hzl := sch_len (t.extract p (p + 64)) 64
      have hzs : small (sch (t.extract p (p + 64)) 64) := sch_lt _ (by rw [extract_size t p (p + 64) (by omega)]; omega) 64
      generalize sch (t.extract p (p + 64)) 64 = Z at *
      obtain ⟨V, hV⟩ : ∃ V, rds KS Z H = V := ⟨_, rfl⟩
      have VOK := rds_ok KS Z H HOK.1 HOK.2
      rw [hV] at hnx VOK
      obtain ⟨CS, hCS⟩ : ∃ CS, (KS.map fun x : Nat => Value.int .u32 (x : Int)) = CS := ⟨_, rfl⟩
      have hUK : u32c KS = CS.toArray := by rw [← hCS]; rfl
      have hLK : (Tryz.prog.info? 94).map (·.size) = some CS.length := by rw [← hCS, List.length_map]; exact keys_info
      have hU52 := Tryz.underlying94
      obtain ⟨x0, x1, x2, x3, x4, x5, x6, x7, hx⟩ : ∃ x0 x1 x2 x3 x4 x5 x6 x7, H = [x0, x1, x2, x3, x4, x5, x6, x7] := by
        match H, HOK.1 with
        | [a, b, c, d, e, f, g, h], _ => exact ⟨a, b, c, d, e, f, g, h, rfl⟩
      have KRd : Hid (∀ w, Calls Tryz.prog 59 #[.agg #[.int .u32 (x0 : Int), .int .u32 (x1 : Int), .int .u32 (x2 : Int), .int .u32 (x3 : Int), .int .u32 (x4 : Int), .int .u32 (x5 : Int), .int .u32 (x6 : Int), .int .u32 (x7 : Int)], .agg (u32c Z), .agg CS.toArray] w fun e w' => e = .returned (.agg (u32c V)) ∧ Below w.heap.size w w') := Lib.hid (fun w => by
        have := rounds_any H Z KS HOK.1 HOK.2 hzl small_KS.1 hzs small_KS.2 w
        rw [hV, hUK, hx] at this
        exact this)
      have mk : Hid (∀ wz, SW w g H wz → (wz.cell? ⟨g + 1, 0, none⟩ = some (.int .u32 (x0 : Int)) ∧ wz.cell? ⟨g + 1, 1, none⟩ = some (.int .u32 (x1 : Int)) ∧ wz.cell? ⟨g + 1, 2, none⟩ = some (.int .u32 (x2 : Int)) ∧ wz.cell? ⟨g + 1, 3, none⟩ = some (.int .u32 (x3 : Int)) ∧ wz.cell? ⟨g + 1, 4, none⟩ = some (.int .u32 (x4 : Int)) ∧ wz.cell? ⟨g + 1, 5, none⟩ = some (.int .u32 (x5 : Int)) ∧ wz.cell? ⟨g + 1, 6, none⟩ = some (.int .u32 (x6 : Int)) ∧ wz.cell? ⟨g + 1, 7, none⟩ = some (.int .u32 (x7 : Int)) ∧ wz.rangeAt g 0 CS ∧ Hid (SW w g H wz))) := Lib.hid (fun wz q => by
        have qq := q.2.2.1
        rw [hx] at qq
        refine ⟨qq.cell 0 (by show 0 < 8; omega), qq.cell 1 (by show 1 < 8; omega), qq.cell 2 (by show 2 < 8; omega), qq.cell 3 (by show 3 < 8; omega), qq.cell 4 (by show 4 < 8; omega), qq.cell 5 (by show 5 < 8; omega), qq.cell 6 (by show 6 < 8; omega), qq.cell 7 (by show 7 < 8; omega), ?_, Lib.hid q⟩
        intro j v hv
        rw [Nat.zero_add, cell_of_row wz g j _ _ _ q.2.1, hUK]
        simpa using hv)
      have HNX := Lib.hid hnx
      have HHOK := Lib.hid HOK
      have HVOK := Lib.hid VOK
      clear hnx HOK VOK hV hCS hUK hzl hzs hH hx
      have hst := Lib.hid (SW.drew hW.out)
      obtain ⟨p2, hp2⟩ : ∃ p2, p + 64 = p2 := ⟨_, rfl⟩
      rw [hp2] at KSp
      have e64 : (p : Int) + 64 = (p2 : Int) := by omega
      have w64 : IntKind.i64.wrap (p2 : Int) = (p2 : Int) := IntWalk.i64_in _ ⟨by omega, by omega⟩
      have b64 : (p2 : Int) ≤ M := by omega
      have a64 : (p : Int) ≤ p2 := by omega
      have z64 : (0 : Int) ≤ p2 := by omega
      have HP2 := Lib.hid hp2
      have n64 : p ≤ p2 := by omega
      have m64 : p2 ≤ M := by omega
      clear hpM hp2
      go_upto_region 5 with (fail)
      go_region_held3 (fun wz => wz.cell? ⟨g + 1, 0, none⟩ = some (.int .u32 (x0 : Int)) ∧ wz.cell? ⟨g + 1, 1, none⟩ = some (.int .u32 (x1 : Int)) ∧ wz.cell? ⟨g + 1, 2, none⟩ = some (.int .u32 (x2 : Int)) ∧ wz.cell? ⟨g + 1, 3, none⟩ = some (.int .u32 (x3 : Int)) ∧ wz.cell? ⟨g + 1, 4, none⟩ = some (.int .u32 (x4 : Int)) ∧ wz.cell? ⟨g + 1, 5, none⟩ = some (.int .u32 (x5 : Int)) ∧ wz.cell? ⟨g + 1, 6, none⟩ = some (.int .u32 (x6 : Int)) ∧ wz.cell? ⟨g + 1, 7, none⟩ = some (.int .u32 (x7 : Int)) ∧ wz.rangeAt g 0 CS ∧ Hid (SW w g H wz))
          (first
            | exact mk.out _ hst.out
            | (refine mk.out _ (SW.later ?_ (by assumption)); go_split_ands; (first | (refine Hid.out ?_; assumption) | (refine SW.undrew (Hid.out ?_); assumption)))
            | (refine mk.out _ (SW.drew ?_); go_split_ands; (first | (refine Hid.out ?_; assumption) | (refine SW.undrew (Hid.out ?_); assumption)))
            | (refine mk.out _ ?_; go_split_ands; (first | (refine Hid.out ?_; assumption) | (refine SW.undrew (Hid.out ?_); assumption))))
          (first
            | (go_at_call 60; ((with_reducible refine (KSp.out _).mono ?_); rintro e w1 ⟨rfl, hb1⟩))
            | (go_at_call 59; ((with_reducible refine (KRd.out _).mono ?_); rintro e w2 ⟨rfl, hb2⟩)))
      have HW2 : Hid (SW w g (mixL H V 0) w2) := by rw [mixL_0]; exact Lib.hid (((SW.drew hW.out).later hb1).later hb2)
      simp only [Exit.then]
      apply_assumption
      clear mk hst hW hb1 hb2 KSp KRd w64 a64 z64 n64 m64 b64 hLK hU52
      go_wp2
      go_loopw [32] (fun j wr => ∃ q : Nat, q ≤ 8 ∧ j = .int .i64 (q : Int) ∧ Hid (SW w g (mixL H V q) wr)) (fun j _ => 8 - (intOf j).toNat)
      case atStart => exact ⟨0, by omega, rfl, HW2⟩
      case round =>
        obtain ⟨q, hq, rfl, hQ⟩ := hrel
        by_cases hq8 : q < 8
        · have hv8 : q < V.length := by rw [HVOK.out.1]; exact hq8
          have hh8 : q < H.length := by rw [HHOK.out.1]; exact hq8
          have hix := fun wz => run_index_u32 V q hv8 HVOK.out.1 wz
          have c0 := hQ.out.2.2.1.cell q (by rw [mixL_len H V HHOK.out.1 HVOK.out.1 q hq]; exact hq8)
          rw [mixL_get H V HHOK.out.1 HVOK.out.1 q hq8] at c0
          have f0 := hQ.out.2.2.1.frozen q
          have hadd := add_mod32 H[q] V[q]
          have hput := hQ.out.put q ((H[q] + V[q]) % 4294967296)
          rw [mixL_set H V HHOK.out.1 HVOK.out.1 q hq8] at hput
          have HPUT := Lib.hid hput
          have q8 : (q : Int) < 8 := by omega
          have q0 : (0 : Int) ≤ q := by omega
          clear hput hQ HW2
          generalize (H[q] + V[q]) % 4294967296 = y at *
          generalize V[q] = vq at *
          generalize H[q] = hq' at *
          clear hv8 hh8
          go_wp2
          go_roundw
          case rel => exact ⟨q + 1, by omega, by go_num, HPUT⟩
          case measure => simp [intOf]; omega
        · obtain rfl : q = 8 := by omega
          have hQ2 : Hid (SW w g (hsn t (k + 1)) wr) := by rw [HNX.out, ← mixL_8 H V HHOK.out.1 HVOK.out.1]; exact hQ
          have HPp : Hid (p2 = 64 * (k + 1)) := Lib.hid (by have := HP2.out; have := hp.out; omega)
          have hless : M - p2 < M - p := by have := HP2.out; omega
          go_wp2
          exact ⟨⟨k + 1, p2, by omega, rfl, HPp, hQ2⟩, by simp [intOf]; omega⟩
    · obtain rfl : k = N := by omega
      have hpM : (M : Int) ≤ p := by have := hp.out; have := HMM.out; omega
      obtain ⟨H, hH⟩ : ∃ H, hsn t k = H := ⟨_, rfl⟩
      have HOK := hsn_ok t k
      have HS2 := HSUM.out
      rw [hH] at hW HOK HS2
      have HSUM2 := Lib.hid HS2
      have HHOK := Lib.hid HOK
      have hUB := Lib.hid hW.out.2.2.1
      have hLN : (Tryz.prog.info? 96).map (·.size) = some H.length := by rw [HOK.1]; exact start_info
      have HLN := Lib.hid hLN
      clear HSUM HOK HS2 hH hLN
      go_upto_region 11 with (fail)
      rw [zb32_is]
      have st := (Below.refl wr.heap.size wr).alloc (Nat.le_refl _) (.cells (W.bcells zb32).toArray 79)
      refine gen_wp (S := fun wz => Hid (UB (g + 1) 96 H wz) ∧ Hid (OW w wr.heap.size (outL H 0) wz)) ⟨Lib.hid (hUB.out.later st), Lib.hid ⟨hW.out.1.later st, bb_new wr zb32 79, hW.out.1.lt, hW.out.2.2.2.2.alloc (Nat.le_of_lt hW.out.1.lt) _⟩⟩ ?_
      intro W5 H5
      obtain ⟨hU5, hO5⟩ := H5
      clear st hUB hW
      generalize wr.heap.size = q at *
      go_wp2_with (first | (refine wpList_load_ub rfl 96 (.tmp 5) rfl hU5.out Tryz.underlying96 HLN.out rfl ?_))
      go_loopw [44] (fun i wr => ∃ j : Nat, j ≤ 8 ∧ i = .int .i64 (j : Int) ∧ Hid (OW w q (outL H j) wr)) (fun i _ => 8 - (intOf i).toNat)
      case atStart => exact ⟨0, by omega, rfl, hO5⟩
      case round =>
        obtain ⟨j, hj, rfl, hO⟩ := hrel
        by_cases hj8 : j < 8
        · have hh8 : j < H.length := by rw [HHOK.out.1]; exact hj8
          have hix := fun wz => run_index_u32 H j hh8 HHOK.out.1 wz
          obtain ⟨F, hF⟩ := out_copy H HHOK.out.1 j hj8 w q
          have hb := HHOK.out.2 _ (List.getElem_mem hh8)
          have KP : Hid (∀ w, Calls Tryz.prog 44 #[.int .u64 (H[j] : Int), .int .i64 4] w fun e w' => e = .returned (.string (W.str (W.be H[j] 4))) ∧ Below w.heap.size w w') := Lib.hid (fun w => W.put_any H[j] 4 (by omega) w)
          obtain ⟨a, ha⟩ : ∃ a, 4 * j = a := ⟨_, rfl⟩
          rw [ha] at hF
          have hm4 : (4 : Int) * j = (a : Int) := by omega
          have wa : IntKind.i64.wrap (a : Int) = (a : Int) := IntWalk.i64_in _ ⟨by omega, by omega⟩
          have a0 : (0 : Int) ≤ a := by omega
          have a32 : (a : Int) ≤ 32 := by omega
          have na32 : a ≤ 32 := by omega
          have j8 : (j : Int) < 8 := by omega
          have j0 : (0 : Int) ≤ j := by omega
          have mk : Hid (∀ wz, (OW w q (outL H j) wz ∨ OW w q (outL H (j + 1)) wz) → ((Builtin.copy_ #[51, 9] 3 #[.slice (some ⟨q, a, none⟩) (32 - a) (32 - a), .string (W.str (W.be H[j] 4))]).run Tryz.prog wz = .ok (.int .i64 4) (F wz) ∧ Hid (OW w q (outL H j) wz ∨ OW w q (outL H (j + 1)) wz))) := Lib.hid (fun wz h => ⟨(hF wz h).1, Lib.hid h⟩)
          have HF : Hid (∀ wz, (OW w q (outL H j) wz ∨ OW w q (outL H (j + 1)) wz) → OW w q (outL H (j + 1)) (F wz)) := Lib.hid (fun wz h => (hF wz h).2)
          have hst := Lib.hid (OW.drew hO.out)
          have mkl : Hid (∀ wz w1, (OW w q (outL H j) wz ∨ OW w q (outL H (j + 1)) wz) → Below wz.heap.size wz w1 → (OW w q (outL H j) w1 ∨ OW w q (outL H (j + 1)) w1)) := Lib.hid (fun wz w1 h hb => h.elim (fun h => Or.inl (h.later hb)) (fun h => Or.inr (h.later hb)))
          have mkd : Hid (∀ wz, (OW w q (outL H j) wz ∨ OW w q (outL H (j + 1)) wz) → (OW w q (outL H j) wz.drew ∨ OW w q (outL H (j + 1)) wz.drew)) := Lib.hid (fun wz h => h.elim (fun h => Or.inl h.drew) (fun h => Or.inr h.drew))
          have mku : Hid (∀ wz, (OW w q (outL H j) wz.drew ∨ OW w q (outL H (j + 1)) wz.drew) → (OW w q (outL H j) wz ∨ OW w q (outL H (j + 1)) wz)) := Lib.hid (fun wz h => h.elim (fun h => Or.inl h.undrew) (fun h => Or.inr h.undrew))
          have wx : IntKind.u64.wrap (H[j] : Int) = (H[j] : Int) := IntWalk.u64_in _ ⟨by omega, by omega⟩
          clear hF hb ha
          generalize W.str (W.be H[j] 4) = b4 at *
          generalize H[j] = x at *
          go_upto_region 14 with (fail)
          go_region_held3 (fun wz => (Builtin.copy_ #[51, 9] 3 #[.slice (some ⟨q, a, none⟩) (32 - a) (32 - a), .string b4]).run Tryz.prog wz = .ok (.int .i64 4) (F wz) ∧ Hid (OW w q (outL H j) wz ∨ OW w q (outL H (j + 1)) wz))
            (first
              | exact mk.out _ (Or.inl hst.out)
              | (refine mk.out _ (mkl.out _ _ ?_ (by assumption)); go_split_ands; (first | (refine Hid.out ?_; assumption) | (refine mku.out _ (Hid.out ?_); assumption)))
              | (refine mk.out _ (Or.inr (HF.out _ ?_)); go_split_ands; (first | (refine Hid.out ?_; assumption) | (refine mku.out _ (Hid.out ?_); assumption)))
              | (refine mk.out _ (mkd.out _ (Or.inr (HF.out _ ?_))); go_split_ands; (first | (refine Hid.out ?_; assumption) | (refine mku.out _ (Hid.out ?_); assumption)))
              | (refine mk.out _ (mkd.out _ ?_); go_split_ands; (first | (refine Hid.out ?_; assumption) | (refine mku.out _ (Hid.out ?_); assumption)))
              | (refine mk.out _ ?_; go_split_ands; (first | (refine Hid.out ?_; assumption) | (refine mku.out _ (Hid.out ?_); assumption))))
            (first
              | (go_at_call 44; ((with_reducible refine (KP.out _).mono ?_); rintro e w1 ⟨rfl, hb1⟩)))
          have HOF := Lib.hid (HF.out _ (Or.inl ((OW.drew hO.out).later hb1)))
          simp only [Exit.inBlock, Exit.then]
          apply_assumption
          clear mk hst mkl mkd mku HF KP hb1
          go_wp2
          go_roundw
          case rel => exact ⟨j + 1, by omega, by go_num, HOF⟩
          case measure => simp [intOf]; omega
        · obtain rfl : j = 8 := by omega
          have hO2 := hO.out
          rw [outL_8 H HHOK.out.1, ← HSUM2.out] at hO2
          have HO2 := Lib.hid hO2
          have HI42 : Hid ((Tryz.prog.info? 79).map (·.size) = some (W.bcells (sumL l)).toArray.size) := Lib.hid (by rw [show (W.bcells (sumL l)).toArray.size = (sumL l).length by simp [W.bcells], sumL_len]; kernel_rfl)
          have HSZ : Hid ((W.bcells zb32).toArray.size = (W.bcells (sumL l)).toArray.size) := Lib.hid (by rw [show (W.bcells (sumL l)).toArray.size = (sumL l).length by simp [W.bcells], sumL_len]; rfl)
          have HONE : Hid ((W.bcells (sumL l)).toArray.all (·.oneCell') = true) := Lib.hid (bcells_one _)
          have HR := Lib.hid (setRow_heap wr w.heap.size (W.bcells zb32).toArray (W.bcells (sumL l)).toArray 79 _ hO2.1)
          have HBB := Lib.hid (below_row hO2.2.2.2 (Nat.le_refl _) (W.bcells (sumL l)).toArray)
          clear hO2 hO HSUM2 H1 hO5 hU5 HLN
          go_wp2_with (first
            | (refine wpList_load_row rfl 79 (.tmp 9) rfl q rfl 79 (W.bcells (sumL l)).toArray (0, 0) _ HO2.out.2.1 Tryz.underlying79 rfl HI42.out ?_)
            | (refine wpList_plain rfl fun _ hK => wp_store_row 79 (.tmp 2) (.tmp 56) rfl w.heap.size (W.bcells (sumL l)).toArray rfl rfl 79 (W.bcells zb32).toArray HO2.out.1 HI42.out HSZ.out HONE.out (hK _ _ ?_)))
          refine bodyPost_ret (v := .agg (W.bcells (sumL l)).toArray) ?_ rfl ⟨rfl, HBB.out⟩
          exact results_cell_row rfl _ _ w.heap.size 79 (W.bcells (sumL l)).toArray (0, 0) _ rfl HR.out Tryz.underlying79 rfl HI42.out
end Go.Proofs.YtjkpopdjmmgbbabGreat.Dg

namespace Go.Proofs.YtjkpopdjmmgbbabGreat.Dg
open Go.RowKit

/-- Are these the words of a block? -/
def chkW (s : ByteArray) (l : List Nat) : Nat → Bool
  | 0 => true
  | k + 1 => chkW s l k && l.getD k 0 == (if k < 16 then word4 s k else nextW (l.take k) k)
theorem chkW_is (s : ByteArray) (l : List Nat) : ∀ k, k ≤ l.length → chkW s l k = true → sch s k = l.take k
  | 0, _, _ => rfl
  | k + 1, hk, h => by
    rw [chkW, Bool.and_eq_true] at h
    have ih := chkW_is s l k (by omega) h.1
    have h2 : l.getD k 0 = (if k < 16 then word4 s k else nextW (l.take k) k) := by simpa using h.2
    rw [show sch s (k + 1) = sch s k ++ [if k < 16 then word4 s k else nextW (sch s k) k] from rfl, ih, ← h2]
    rw [List.take_succ_eq_append_getElem (by omega), List.getD_eq_getElem?_getD, List.getElem?_eq_getElem (by omega)]; rfl
/-- Are these the rounds' states? -/
def chkR : List Nat → List Nat → List Nat → List (List Nat) → List Nat → Bool
  | k :: ks, w :: ws, l, s :: ss, fin => (stp k w l == s) && chkR ks ws s ss fin
  | [], [], l, [], fin => l == fin
  | _, _, _, _, _ => false
theorem chkR_is : ∀ (ks ws l : List Nat) (ss : List (List Nat)) (fin : List Nat), chkR ks ws l ss fin = true → rds ks ws l = fin
  | k :: ks, w :: ws, l, s :: ss, fin, h => by
    rw [chkR, Bool.and_eq_true] at h
    have h1 : stp k w l = s := by simpa using h.1
    have := chkR_is ks ws s ss fin h.2
    rw [← h1] at this
    exact this
  | [], [], l, [], fin, h => by
    have : l = fin := by simpa [chkR] using h
    exact this
  | [], [], _, _ :: _, _, h => by simp [chkR] at h
  | [], _ :: _, _, _, _, h => by simp [chkR] at h
  | _ :: _, [], _, _, _, h => by simp [chkR] at h
  | _ :: _, _ :: _, _, [], _, h => by simp [chkR] at h
def abcW : List Nat := [1633837952, 0, 0, 0, 0, 0, 0, 0, 0, 0, 0, 0, 0, 0, 0, 24, 1633837952, 983040, 2108187653, 1610613702, 1050508152, 25426944, 316456923, 3806512014, 3357629466, 3073800610, 3854317833, 845560923, 2636160359, 3968280267, 1881225380, 3552024379, 2482346367, 996719219, 2952069057, 4043988066, 176896406, 1924104970, 2483675966, 610538786, 2672279444, 4037431130, 1042573945, 657669027, 206005234, 2215296807, 2049510749, 106709978, 4215179723, 3430291419, 3118885940, 2845390439, 2226839261, 3256115900, 344409900, 2987358873, 4015503821, 3957764664, 2682456414, 2025622859, 2755645205, 1720397816, 4004225740, 313650667]
def abcS : List (List Nat) := [[1567288269, 1779033703, 3144134277, 1013904242, 4197074466, 1359893119, 2600822924, 528734635],
  [1516951981, 1567288269, 1779033703, 3144134277, 2026797449, 4197074466, 1359893119, 2600822924],
  [3368241063, 1516951981, 1567288269, 1779033703, 4180228587, 2026797449, 4197074466, 1359893119],
  [3578852966, 3368241063, 1516951981, 1567288269, 618661968, 4180228587, 2026797449, 4197074466],
  [71342698, 3578852966, 3368241063, 1516951981, 1135452741, 618661968, 4180228587, 2026797449],
  [725748213, 71342698, 3578852966, 3368241063, 1900175533, 1135452741, 618661968, 4180228587],
  [3842179968, 725748213, 71342698, 3578852966, 2603066369, 1900175533, 1135452741, 618661968],
  [2241887071, 3842179968, 725748213, 71342698, 207977081, 2603066369, 1900175533, 1135452741],
  [2382687417, 2241887071, 3842179968, 725748213, 852110732, 207977081, 2603066369, 1900175533],
  [2357671019, 2382687417, 2241887071, 3842179968, 482944406, 852110732, 207977081, 2603066369],
  [1201185780, 2357671019, 2382687417, 2241887071, 1131095016, 482944406, 852110732, 207977081],
  [4146054569, 1201185780, 2357671019, 2382687417, 2171590377, 1131095016, 482944406, 852110732],
  [2274437520, 4146054569, 1201185780, 2357671019, 509051416, 2171590377, 1131095016, 482944406],
  [3643992854, 2274437520, 4146054569, 1201185780, 1952073950, 509051416, 2171590377, 1131095016],
  [3227803614, 3643992854, 2274437520, 4146054569, 194179596, 1952073950, 509051416, 2171590377],
  [2969183118, 3227803614, 3643992854, 2274437520, 123276749, 194179596, 1952073950, 509051416],
  [567974555, 2969183118, 3227803614, 3643992854, 2150900380, 123276749, 194179596, 1952073950],
  [3271285201, 567974555, 2969183118, 3227803614, 2221859924, 2150900380, 123276749, 194179596],
  [4269243327, 3271285201, 567974555, 2969183118, 3431569761, 2221859924, 2150900380, 123276749],
  [3790736435, 4269243327, 3271285201, 567974555, 2959311225, 3431569761, 2221859924, 2150900380],
  [2647034723, 3790736435, 4269243327, 3271285201, 2329577776, 2959311225, 3431569761, 2221859924],
  [3261099373, 2647034723, 3790736435, 4269243327, 3777329520, 2329577776, 2959311225, 3431569761],
  [2812502591, 3261099373, 2647034723, 3790736435, 1240797514, 3777329520, 2329577776, 2959311225],
  [3319086477, 2812502591, 3261099373, 2647034723, 2856829767, 1240797514, 3777329520, 2329577776],
  [472655928, 3319086477, 2812502591, 3261099373, 673443729, 2856829767, 1240797514, 3777329520],
  [3454534525, 472655928, 3319086477, 2812502591, 339230094, 673443729, 2856829767, 1240797514],
  [3056518332, 3454534525, 472655928, 3319086477, 3343672598, 339230094, 673443729, 2856829767],
  [2010346792, 3056518332, 3454534525, 472655928, 3992961016, 3343672598, 339230094, 673443729],
  [909411017, 2010346792, 3056518332, 3454534525, 1628611511, 3992961016, 3343672598, 339230094],
  [2684750640, 909411017, 2010346792, 3056518332, 2917635127, 1628611511, 3992961016, 3343672598],
  [3935906338, 2684750640, 909411017, 2010346792, 17410874, 2917635127, 1628611511, 3992961016],
  [1941126133, 3935906338, 2684750640, 909411017, 3126399250, 17410874, 2917635127, 1628611511],
  [2564891911, 1941126133, 3935906338, 2684750640, 2631529974, 3126399250, 17410874, 2917635127],
  [4267724277, 2564891911, 1941126133, 3935906338, 1495571923, 2631529974, 3126399250, 17410874],
  [2846323596, 4267724277, 2564891911, 1941126133, 140458035, 1495571923, 2631529974, 3126399250],
  [1705037796, 2846323596, 4267724277, 2564891911, 4105175766, 140458035, 1495571923, 2631529974],
  [1101421745, 1705037796, 2846323596, 4267724277, 124953195, 4105175766, 140458035, 1495571923],
  [887035396, 1101421745, 1705037796, 2846323596, 2768741693, 124953195, 4105175766, 140458035],
  [1841658506, 887035396, 1101421745, 1705037796, 4034403272, 2768741693, 124953195, 4105175766],
  [2045405306, 1841658506, 887035396, 1101421745, 519815328, 4034403272, 2768741693, 124953195],
  [3597076326, 2045405306, 1841658506, 887035396, 641019235, 519815328, 4034403272, 2768741693],
  [3745932591, 3597076326, 2045405306, 1841658506, 2206934801, 641019235, 519815328, 4034403272],
  [397020670, 3745932591, 3597076326, 2045405306, 3737995029, 2206934801, 641019235, 519815328],
  [2638983059, 397020670, 3745932591, 3597076326, 4255271982, 3737995029, 2206934801, 641019235],
  [643991573, 2638983059, 397020670, 3745932591, 2819559920, 4255271982, 3737995029, 2206934801],
  [1923828625, 643991573, 2638983059, 397020670, 3077922209, 2819559920, 4255271982, 3737995029],
  [2706117808, 1923828625, 643991573, 2638983059, 3581645993, 3077922209, 2819559920, 4255271982],
  [1098003085, 2706117808, 1923828625, 643991573, 4274981830, 3581645993, 3077922209, 2819559920],
  [91585771, 1098003085, 2706117808, 1923828625, 3178315832, 4274981830, 3581645993, 3077922209],
  [4045142696, 91585771, 1098003085, 2706117808, 1851537676, 3178315832, 4274981830, 3581645993],
  [2047150241, 4045142696, 91585771, 1098003085, 1391578359, 1851537676, 3178315832, 4274981830],
  [2288941602, 2047150241, 4045142696, 91585771, 1227037726, 1391578359, 1851537676, 3178315832],
  [270520975, 2288941602, 2047150241, 4045142696, 1386118400, 1227037726, 1391578359, 1851537676],
  [4117770203, 270520975, 2288941602, 2047150241, 2672265155, 1386118400, 1227037726, 1391578359],
  [1053056219, 4117770203, 270520975, 2288941602, 3842906959, 2672265155, 1386118400, 1227037726],
  [952932627, 1053056219, 4117770203, 270520975, 1422599787, 3842906959, 2672265155, 1386118400],
  [4241590395, 952932627, 1053056219, 4117770203, 2606665836, 1422599787, 3842906959, 2672265155],
  [3227702383, 4241590395, 952932627, 1053056219, 2118385806, 2606665836, 1422599787, 3842906959],
  [4290184306, 3227702383, 4241590395, 952932627, 1837350854, 2118385806, 2606665836, 1422599787],
  [3064893439, 4290184306, 3227702383, 4241590395, 2988158269, 1837350854, 2118385806, 2606665836],
  [3093179625, 3064893439, 4290184306, 3227702383, 2518632596, 2988158269, 1837350854, 2118385806],
  [80891244, 3093179625, 3064893439, 4290184306, 2492278198, 2518632596, 2988158269, 1837350854],
  [3550093669, 80891244, 3093179625, 3064893439, 4212265488, 2492278198, 2518632596, 2988158269],
  [1349398616, 3550093669, 80891244, 3093179625, 1593118500, 4212265488, 2492278198, 2518632596]]
def abcE : List Nat := [1349398616, 3550093669, 80891244, 3093179625, 1593118500, 4212265488, 2492278198, 2518632596]
def abc : List UInt8 := [97, 98, 99]
theorem abc_words : chkW ((W.str (wholeL abc)).extract 0 64) abcW 64 = true := by decide +kernel
theorem abc_rounds : chkR KS abcW HS abcS abcE = true := by decide +kernel
theorem abc_sum : sumL abc = bytes4 (addL HS abcE) := by
  have h1 : sch ((W.str (wholeL abc)).extract 0 64) 64 = abcW := chkW_is _ abcW 64 (by decide) abc_words
  have h2 : rds KS abcW HS = abcE := chkR_is _ _ _ _ _ abc_rounds
  have h3 : (wholeL abc).length / 64 = 1 := by decide +kernel
  unfold sumL
  rw [h3, show hsn (W.str (wholeL abc)) 1 = addL HS (rds KS (sch ((W.str (wholeL abc)).extract 0 64) 64) HS) from rfl, h1, h2]
theorem abc_begins : Lib.hasPrefix (sumL abc) [186, 120, 22, 191] = true := by
  rw [abc_sum]; decide +kernel
end Go.Proofs.YtjkpopdjmmgbbabGreat.Dg

namespace Go.Proofs.YtjkpopdjmmgbbabGreat.Dg
open Go.RowKit

theorem bb_lit (w : World) {A : Array Value} (hA : A = (W.bcells zb32).toArray) : BB w.heap.size 79 zb32 (w.alloc (.cells A 79)) := by subst hA; exact bb_new w zb32 79
theorem info42 (l : List UInt8) (h : l.length = 32) : (Tryz.prog.info? 79).map (·.size) = some (W.bcells l).toArray.size := by
  rw [show (W.bcells l).toArray.size = l.length by simp [W.bcells], h]; kernel_rfl
theorem size42 (l : List UInt8) (h : l.length = 32) : (W.bcells zb32).toArray.size = (W.bcells l).toArray.size := by
  rw [show (W.bcells l).toArray.size = l.length by simp [W.bcells], h]; rfl
theorem conv42 {g : Nat} {l : List UInt8} {w : World} (h : BB g 79 l w) (hl : l.length = 32) : (convert 51 9 (.slice (some ⟨g, 0, none⟩) 32 32)).run Tryz.prog w = .ok (.string (W.str l)) w := by
  have h2 := run_convert_bytes_back (P := Tryz.prog) w 51 9 5 ⟨g, 0, none⟩ 32 l Tryz.underlying51 Tryz.underlying5 Tryz.underlying9 (fun j hj => by
    have := h.cell j hj
    have hadd : (⟨g, 0, none⟩ : Addr).add j = ⟨g, j, none⟩ := by unfold Addr.add; split <;> simp_all
    rw [hadd]; exact this)
  rw [hl] at h2
  exact h2

set_option maxRecDepth 1000000 in
theorem text_core (v : Value) (l : List UInt8) (hl : l.length ≤ 200000) (w : World) (hj : ∀ w', Below w.heap.size w w' → Calls Tryz.prog 56 #[v, .string ⟨#[]⟩] w' fun e w'' => e = .returned (.string (W.str l)) ∧ Below w'.heap.size w' w'') :
    Calls Tryz.prog 46 #[v] w fun e w' => e = .returned (.string (W.str (sumL l))) ∧ Below w.heap.size w w' := by
  have K := Lib.hid (sum_core v l hl w hj)
  have hlen := sumL_len l
  generalize sumL l = o at *
  have HI42 := Lib.hid (info42 o hlen)
  have HSZ := Lib.hid (size42 o hlen)
  have HONE := Lib.hid (bcells_one o)
  have HLEN := Lib.hid hlen
  clear hj hl hlen
  go_enter Tryz.func46, Tryz.ntmps46
  go_upto_region 2 with (first
    | (go_at_call 43; go_must (refine K.out.mono ?_); rintro e w1 ⟨rfl, hb1⟩)
    | (refine wpList_plain rfl fun _ hK => wp_store_row 79 (.tmp 3) (.tmp 5) rfl _ (W.bcells o).toArray rfl rfl 79 (W.bcells zb32).toArray (bb_lit _ zb32_is) HI42.out HSZ.out HONE.out (hK _ _ ?_)))
  rw [zb32_is]
  have hbw := hb1.alloc hb1.size (.cells (W.bcells zb32).toArray 79)
  refine gen_wp (S := fun wz => Hid (BB w1.heap.size 79 o wz) ∧ Hid (Below w.heap.size w wz)) ⟨Lib.hid (setRow_heap _ _ _ _ _ _ (bb_new w1 zb32 79)), Lib.hid (below_row hbw hb1.size _)⟩ ?_
  intro W2 H2
  obtain ⟨hB, hW⟩ := H2
  have hcv := conv42 hB.out HLEN.out
  go_wp2
  go_ret
  exact ⟨rfl, hW.out⟩

set_option maxRecDepth 1000000 in
theorem awake_sum (w : World) : Calls Tryz.prog 29 #[] w fun e w' => e = .returned (.bool true) ∧ Below w.heap.size w w' := by
  have KA : Hid (∀ w, Calls Tryz.prog 12 #[] w fun e w' => e = .returned (.bool true) ∧ Below w.heap.size w w') := Lib.hid (fun w => by
    go_enter Tryz.func12, Tryz.ntmps12
    go_wp2_with (first | (go_at_call 28; go_must (refine (W.awake_any _).mono ?_); rintro e w1 ⟨rfl, hb1⟩))
    go_ret
    exact ⟨rfl, hb1⟩)
  have KT : Hid (∀ (g : Nat) (w : World), g < w.heap.size → w.cell? ⟨g, 0, none⟩ = some (.string ⟨#[97]⟩) → w.cell? ⟨g, 1, none⟩ = some (.string ⟨#[98, 99]⟩) → Calls Tryz.prog 46 #[.slice (some ⟨g, 0, none⟩) 2 2] w fun e w' => e = .returned (.string (W.str (sumL abc))) ∧ Below w.heap.size w w') := Lib.hid (fun g w hg h0 h1 =>
    text_core _ abc (by decide) w (fun w' hb => by
      have hJ := Tryz.strings_Join g 0 2 [⟨#[97]⟩, ⟨#[98, 99]⟩] ⟨#[]⟩ w' (by
        intro j x hx
        have hc : ∀ k, w'.cell? ⟨g, k, none⟩ = w.cell? ⟨g, k, none⟩ := fun k => World.cell?_of_block (hb.block g hg)
        match j, hx with
        | 0, hx => simp at hx; subst hx; rw [hc]; exact h0
        | 1, hx => simp at hx; subst hx; rw [hc]; exact h1) (Nat.lt_of_lt_of_le hg hb.size) (by decide) (by decide) (by decide)
      exact hJ))
  have KN : Hid (∀ (w : World), Calls Tryz.prog 46 #[.slice none 0 0] w fun e w' => e = .returned (.string (W.str (sumL []))) ∧ Below w.heap.size w w') := Lib.hid (fun w =>
    text_core _ [] (by decide) w (fun w' hb => (Tryz.strings_Join_none none 0 ⟨#[]⟩ w').mono (by rintro e w'' ⟨rfl, rfl⟩; exact ⟨rfl, Below.refl _ _⟩)))
  have hn : (W.str (sumL [])).size = 32 := by rw [W.size_str, sumL_len]
  have KP : Hid (∀ w, Calls Tryz.prog 45 #[.string (W.str (sumL abc)), .string ⟨#[186, 120, 22, 191]⟩] w fun e w' => e = .returned (.bool true) ∧ w' = w) := Lib.hid (fun w => by
    have := Tryz.strings_HasPrefix (W.str (sumL abc)) ⟨#[186, 120, 22, 191]⟩ w
    rw [show Lib.hasPrefix (W.str (sumL abc)).data.toList (⟨#[186, 120, 22, 191]⟩ : ByteArray).data.toList = true from abc_begins] at this
    exact this)
  generalize W.str (sumL []) = s0 at *
  generalize W.str (sumL abc) = s1 at *
  go_enter Tryz.func29, Tryz.ntmps29
  go_wp2_with (first
    | (go_at_call 12; go_must (refine (KA.out _).mono ?_); rintro e w1 ⟨rfl, hb1⟩)
    | (go_at_call 46; ((with_reducible refine (KT.out _ _ ?_ ?_ ?_).mono ?_); (simp [go_sem]); (simp [go_sem]); (simp [go_sem]); rintro e w2 ⟨rfl, hb2⟩))
    | (go_at_call 45; go_must (refine (KP.out _).mono ?_); rintro e w3 ⟨rfl, rfl⟩)
    | (go_at_call 46; go_must (refine (KN.out _).mono ?_); rintro e w4 ⟨rfl, hb4⟩))
  go_ret
  have hc := (hb1.alloc hb1.size _).trans (hb2.mono (by simp; have := hb1.size; omega))
  exact ⟨rfl, hc.trans (hb4.mono hc.size)⟩
end Go.Proofs.YtjkpopdjmmgbbabGreat.Dg
