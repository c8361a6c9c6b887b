/- Walk of the document's sum.; The law FileSeals, with the document's own sum. -/
import Derived.Test.YtjkpopdjmmgbbaaGreatM27
import Derived.BigQuiet
import Derived.StillTailTactics
import Derived.Test.YtjkpopdjmmgbbaaGreatM24
set_option linter.unusedVariables false
set_option linter.unusedSimpArgs false
namespace Go.Proofs.YtjkpopdjmmgbbaaGreat.Dg
open Go.RowKit
set_option linter.unusedVariables false

set_option maxRecDepth 1000000 in
set_option maxHeartbeats 40000000 in
theorem rtext_any (l : List UInt8) (hl : l.length ≤ 200000) (w : World) : Calls Tryz.prog 34 #[.string (W.str l)] w fun e w' => e = .returned (.string (W.str (sumL l))) ∧ Below w.heap.size w w' := by
  obtain ⟨t, ht⟩ : ∃ t, W.str (wholeL l) = t := ⟨_, rfl⟩
  obtain ⟨N, hN⟩ : ∃ N, (wholeL l).length / 64 = N := ⟨_, rfl⟩
  have h64 := wholeL_64 l
  have hwl := wholeL_len l
  have htz : t.size = 64 * N := by rw [← ht, W.size_str]; omega
  have hN40 : N ≤ 4000 := by have : nts l.length < 64 := Nat.mod_lt _ (by omega); omega
  have HSUM : Hid (sumL l = bytes4 (hsn t N)) := Lib.hid (by unfold sumL; rw [ht, hN])
  have KP : Hid (∀ w, Calls Tryz.prog 62 #[.string (W.str l)] w fun e w' => e = .returned (.string t) ∧ Below w.heap.size w w') := Lib.hid (fun w => by rw [← ht]; exact pad_any l hl w)
  have HTZ := Lib.hid htz
  have itz : (t.size : Int) = 64 * (N : Int) := by omega
  obtain ⟨S, hS⟩ : ∃ S, sumL l = S := ⟨_, rfl⟩
  rw [hS] at HSUM ⊢
  generalize W.str l = s0 at *
  clear ht hN h64 hwl hl hS htz
  have HIT := Lib.hid itz
  clear itz
  go_enter Tryz.func34, Tryz.ntmps34
  go_wp2_with (first
    | (go_at_call 62; go_must (refine (KP.out _).mono ?_); rintro e w1 ⟨rfl, hb1⟩)
    | (go_at_call 63; go_must (refine (k_any _).mono ?_); rintro e w2 ⟨rfl, hU2, hb2⟩))
  have hb12 := hb1.trans (hb2.mono hb1.size)
  refine gen_wp (S := fun wz => Hid (T2 w w1.heap.size w2.heap.size HS wz)) (Lib.hid (T2.fresh hU2 hb12 hb1.size HS (by kernel_rfl))) ?_
  intro W0 H0
  clear hU2 hb1 hb2 hb12
  generalize w1.heap.size = gk at *
  generalize w2.heap.size = gh at *
  go_loopw [6] (fun av wr => ∃ b : Nat, b ≤ N ∧ av = .int .i64 ((64 * b : Nat) : Int) ∧ Hid (T2 w gk gh (hsn t b) wr)) (fun av _ => 64 * N - (intOf av).toNat)
  case atStart => exact ⟨0, Nat.zero_le _, rfl, H0⟩
  case round =>
    obtain ⟨b, hbN, rfl, hT⟩ := hrel
    by_cases hlt : b < N
    · obtain ⟨a, ha⟩ : ∃ a, a = 64 * b := ⟨_, rfl⟩
      have hat : (a : Int) < (t.size : Int) := by have := HIT.out; omega
      rw [← ha]
      have HA := Lib.hid ha
      obtain ⟨H, hH⟩ : ∃ H, hsn t b = H := ⟨_, rfl⟩
      obtain ⟨s, hs⟩ : ∃ s, t.extract a (a + 64) = s := ⟨_, rfl⟩
      have HHOK := Lib.hid (hsn_ok t b)
      have HNX : Hid (hsn t (b + 1) = addL H (rds KS (sch s 64) H)) := Lib.hid (by rw [← hs, ← hH, ha]; rfl)
      have HSZ : Hid (s.size = 64) := Lib.hid (by have := HIT.out; rw [← hs, ByteArray.size_extract]; omega)
      rw [hH] at hT HHOK
      have HS' := Lib.hid hs
      clear ha hH hs
      have hmk := make_words wr
      go_upto_region 8 with fail
      refine gen_wp (S := fun wz => Hid (T3 w gk gh wr.heap.size H (schA s 0) wz)) (Lib.hid (T3.fresh hT.out (schA s 0) rfl)) ?_
      intro W1 H1
      clear hT hmk
      generalize wr.heap.size = gw at *
      go_wp2_with fail
      go_loopw [8] (fun iv wr => ∃ i : Nat, i ≤ 16 ∧ iv = .int .i64 (i : Int) ∧ Hid (T3 w gk gh gw H (schA s i) wr)) (fun iv _ => 16 - (intOf iv).toNat)
      case atStart => exact ⟨0, Nat.zero_le _, rfl, H1⟩
      case round =>
        obtain ⟨i, hi, rfl, hI⟩ := hrel
        by_cases hi16 : i < 16
        · obtain ⟨o, ho⟩ : ∃ o, o = a + 4 * i := ⟨_, rfl⟩
          have hI0 : Hid (T3 w gk gh gw H ((schA s i).set i (partT t o 0)) wr) := by
            rw [partT_0, schA_zero s i (by omega)]; exact hI
          clear hI
          go_wp2_with fail
          go_loopw [9] (fun jv wr => ∃ j : Nat, j ≤ 4 ∧ jv = .int .i64 (j : Int) ∧ Hid (T3 w gk gh gw H ((schA s i).set i (partT t o j)) wr)) (fun jv _ => 4 - (intOf jv).toNat)
          case atStart => exact ⟨0, Nat.zero_le _, rfl, hI0⟩
          case round =>
            obtain ⟨j, hj, rfl, hJ⟩ := hrel
            by_cases hj4 : j < 4
            ·
              have hbd := partT_small t o j hj4
              obtain ⟨q, hq⟩ : ∃ q, q = o + j := ⟨_, rfl⟩
              have hqt : q < t.size := by have := HTZ.out; have := HA.out; omega
              have hsucc := partT_succ t o j (by rw [← hq]; exact hqt)
              have c0 := hJ.out.2.1.cell i (by rw [set_len, schA_len s i (by omega)]; omega)
              rw [List.getElem_set_self] at c0
              have f0 := hJ.out.2.1.frozen i
              have hput := hJ.out.put i (partT t o (j + 1))
              rw [List.set_set] at hput
              have HPUT := Lib.hid hput
              have hcg : (t[o + j]'(by rw [← hq]; exact hqt)) = t[q]'hqt := by congr 1; exact hq.symm
              rw [hcg] at hsucc
              obtain ⟨y, hy⟩ : ∃ y, partT t o (j + 1) = y := ⟨_, rfl⟩
              obtain ⟨x, hx⟩ : ∃ x, partT t o j = x := ⟨_, rfl⟩
              rw [hy] at hsucc hbd HPUT
              rw [hx] at hsucc hbd c0
              have HY := Lib.hid hy
              have e1 : (4 : Int) * (i : Int) = ((4 * i : Nat) : Int) := by omega
              obtain ⟨i4, hi4⟩ : ∃ i4, i4 = 4 * i := ⟨_, rfl⟩
              rw [← hi4] at e1
              have e2 : (a : Int) + (i4 : Int) = (o : Int) := by omega
              have e3 : (o : Int) + (j : Int) = (q : Int) := by omega
              have iq : (q : Int) < (t.size : Int) := by omega
              have iq0 : (0 : Int) ≤ (q : Int) := by omega
              have ht3 : t.size ≤ 260000 := by have := HTZ.out; omega
              have w1 : IntKind.i64.wrap (i4 : Int) = (i4 : Int) := IntWalk.i64_in _ ⟨by omega, by omega⟩
              have w2 : IntKind.i64.wrap (o : Int) = (o : Int) := IntWalk.i64_in _ ⟨by omega, by omega⟩
              have w3 : IntKind.i64.wrap (q : Int) = (q : Int) := IntWalk.i64_in _ ⟨by omega, by omega⟩
              have HVAL := Lib.hid (show (x : Int) * 256 % 4294967296 + (((t[q]'hqt).toNat : Nat) : Int) = (y : Int) by omega)
              have hx1 : IntKind.u32.wrap ((x : Int) * 256) = ((x * 256 : Nat) : Int) := by rw [IntKind.wrap_u32]; omega
              have hc8 := (t[q]'hqt).toNat_lt
              have hx2 : IntKind.u32.wrap (((t[q]'hqt).toNat : Nat) : Int) = (((t[q]'hqt).toNat : Nat) : Int) := by rw [IntKind.wrap_u32]; omega
              have hx3 : ((x * 256 : Nat) : Int) + (((t[q]'hqt).toNat : Nat) : Int) = (y : Int) := by omega
              have hx4 : IntKind.u32.wrap (y : Int) = (y : Int) := by rw [IntKind.wrap_u32]; omega
              have i16 : (i : Int) < 64 := by omega
              have HO := Lib.hid ho
              clear hput hJ hsucc hbd hcg hq hi4 ho hy hx hx1 hx2 hx3 hx4
              go_wp2_with fail
              go_region
              all_goals
                go_wp2
                go_roundw
                case rel => exact ⟨j + 1, by omega, by go_num, by rw [HVAL.out, HY.out]; exact Lib.hid (HPUT.out.later (bd1 _))⟩
                case measure => simp [intOf]; omega
            ·
              obtain rfl : j = 4 := by omega
              have hw4 : partT t o 4 = word4 s i := by rw [ho, HA.out, ← HS'.out, HA.out]; exact partT_word t b i hi16
              have hstep := schA_step s i (by omega)
              rw [if_pos hi16, ← hw4] at hstep
              rw [hstep] at hJ
              clear hw4 hstep ho
              go_wp2
              go_roundw
              case rel => exact ⟨i + 1, by omega, by go_num, hJ⟩
              case measure => simp [intOf]; omega
        ·
          obtain rfl : i = 16 := by omega
          go_wp2_with fail
          go_loopw [10] (fun iv wr => ∃ k : Nat, 16 ≤ k ∧ k ≤ 64 ∧ iv = .int .i64 (k : Int) ∧ Hid (T3 w gk gh gw H (schA s k) wr)) (fun iv _ => 64 - (intOf iv).toNat)
          case atStart => exact ⟨16, Nat.le_refl _, by omega, rfl, hI⟩
          case round =>
            clear hI H1
            obtain ⟨k, h16, hk, rfl, hK⟩ := hrel
            by_cases hk64 : k < 64
            ·
              obtain ⟨t16, e16⟩ : ∃ t : Nat, (k : Int) - 16 = (t : Int) := ⟨k - 16, by omega⟩
              obtain ⟨t15, e15⟩ : ∃ t : Nat, (k : Int) - 15 = (t : Int) := ⟨k - 15, by omega⟩
              obtain ⟨t7, e7⟩ : ∃ t : Nat, (k : Int) - 7 = (t : Int) := ⟨k - 7, by omega⟩
              obtain ⟨t2, e2⟩ : ∃ t : Nat, (k : Int) - 2 = (t : Int) := ⟨k - 2, by omega⟩
              have hcells : ∀ t, t < k → wr.cell? ⟨gw, t, none⟩ = some (.int .u32 (gd (sch s k) t : Nat)) := fun t ht => by
                rw [hK.out.2.1.cell t (by rw [schA_len s k hk]; omega), schA_get s k t hk ht]
              have c16 := hcells t16 (by omega)
              have c15 := hcells t15 (by omega)
              have c7 := hcells t7 (by omega)
              have c2 := hcells t2 (by omega)
              have g16 : t16 = k - 16 := by omega
              have g15 : t15 = k - 15 := by omega
              have g7 : t7 = k - 7 := by omega
              have g2 : t2 = k - 2 := by omega
              have hbd : ∀ t, t < k → gd (sch s k) t < 4294967296 := fun t ht => by
                unfold gd
                rw [List.getD_eq_getElem?_getD, List.getElem?_eq_getElem (by rw [sch_len]; exact ht)]
                exact sch_lt s HSZ.out k _ (List.getElem_mem (by rw [sch_len]; exact ht))
              have b15 := hbd t15 (by omega)
              have b2 := hbd t2 (by omega)
              obtain ⟨y0, c0⟩ : ∃ y : Nat, wr.cell? ⟨gw, k, none⟩ = some (.int .u32 (y : Int)) := ⟨_, hK.out.2.1.cell k (by rw [schA_len s k hk]; exact hk64)⟩
              have f0 := hK.out.2.1.frozen k
              have HN : Hid (nextW (sch s k) k = (gd (sch s k) t16 + sg0 (gd (sch s k) t15) + gd (sch s k) t7 + sg1 (gd (sch s k) t2)) % 4294967296) := Lib.hid (by rw [g16, g15, g7, g2]; rfl)
              clear hcells hbd g16 g15 g7 g2
              have hstep := schA_step s k hk64
              rw [if_neg (by omega)] at hstep
              have HPUT : Hid (∀ wz, T3 w gk gh gw H (schA s k) wz → T3 w gk gh gw H (schA s (k + 1)) (wz.setCell ⟨gw, k, none⟩ (.int .u32 (nextW (sch s k) k : Nat)))) := Lib.hid (fun wz hz => by
                have hput := hz.put k (nextW (sch s k) k)
                rw [hstep] at hput
                exact hput)
              clear hstep
              obtain ⟨x16, hx16⟩ : ∃ x, gd (sch s k) t16 = x := ⟨_, rfl⟩
              obtain ⟨x15, hx15⟩ : ∃ x, gd (sch s k) t15 = x := ⟨_, rfl⟩
              obtain ⟨x7, hx7⟩ : ∃ x, gd (sch s k) t7 = x := ⟨_, rfl⟩
              obtain ⟨x2, hx2'⟩ : ∃ x, gd (sch s k) t2 = x := ⟨_, rfl⟩
              rw [hx16] at c16 HN
              rw [hx15] at c15 b15 HN
              rw [hx7] at c7 HN
              rw [hx2'] at c2 b2 HN
              clear hx16 hx15 hx7 hx2'
              have HE := Lib.hid (And.intro e16 (And.intro e15 (And.intro e7 e2)))
              have KA1 := Lib.hid (fun w => rotr_any x15 7 b15 (by omega) (by omega) w)
              have KA2 := Lib.hid (fun w => rotr_any x15 18 b15 (by omega) (by omega) w)
              have KB1 := Lib.hid (fun w => rotr_any x2 17 b2 (by omega) (by omega) w)
              have KB2 := Lib.hid (fun w => rotr_any x2 19 b2 (by omega) (by omega) w)
              have hxa : bits BinOp.xor IntKind.u32 (ror x15 7 : Nat) (ror x15 18 : Nat) = ((ror x15 7 ^^^ ror x15 18 : Nat) : Int) := u32_xor_nat _ _ (ror_or x15 7 b15).2.2 (ror_or x15 18 b15).2.2
              have hxb : bits BinOp.xor IntKind.u32 (ror x2 17 : Nat) (ror x2 19 : Nat) = ((ror x2 17 ^^^ ror x2 19 : Nat) : Int) := u32_xor_nat _ _ (ror_or x2 17 b2).2.2 (ror_or x2 19 b2).2.2
              have hx1 : bits BinOp.xor IntKind.u32 ((ror x15 7 ^^^ ror x15 18 : Nat) : Int) ((x15 : Int) / 8) = (sg0 x15 : Int) := sg_xor x15 7 18 8 b15
              have hx2 : bits BinOp.xor IntKind.u32 ((ror x2 17 ^^^ ror x2 19 : Nat) : Int) ((x2 : Int) / 1024) = (sg1 x2 : Int) := sg_xor x2 17 19 1024 b2
              generalize ror x15 7 ^^^ ror x15 18 = T0 at *
              generalize ror x2 17 ^^^ ror x2 19 = T1 at *
              generalize ror x15 7 = ra at *
              generalize ror x15 18 = rb at *
              generalize ror x2 17 = rc at *
              generalize ror x2 19 = rd at *
              have ha1 := add_mod32 x16 (sg0 x15)
              have ha2 := add_mod32 ((x16 + sg0 x15) % 4294967296) x7
              have ha3 := add_mod32 (((x16 + sg0 x15) % 4294967296 + x7) % 4294967296) (sg1 x2)
              have hfin : ((((x16 + sg0 x15) % 4294967296 + x7) % 4294967296 + sg1 x2) % 4294967296) = nextW (sch s k) k := by rw [HN.out]; omega
              rw [hfin] at ha3
              generalize nextW (sch s k) k = x at ha3 HPUT
              generalize ((x16 + sg0 x15) % 4294967296 + x7) % 4294967296 = n2 at ha2 ha3
              generalize (x16 + sg0 x15) % 4294967296 = n1 at ha1 ha2
              generalize sg0 x15 = s0 at hx1 ha1
              generalize sg1 x2 = s1 at hx2 ha3
              have i16' : (t16 : Int) < 64 := by omega
              have i15 : (t15 : Int) < 64 := by omega
              have i7 : (t7 : Int) < 64 := by omega
              have i2 : (t2 : Int) < 64 := by omega
              have ik : (k : Int) < 64 := by omega
              have w16 : IntKind.i64.wrap (t16 : Int) = (t16 : Int) := IntWalk.i64_in _ ⟨by omega, by omega⟩
              have w15 : IntKind.i64.wrap (t15 : Int) = (t15 : Int) := IntWalk.i64_in _ ⟨by omega, by omega⟩
              have w7 : IntKind.i64.wrap (t7 : Int) = (t7 : Int) := IntWalk.i64_in _ ⟨by omega, by omega⟩
              have w2 : IntKind.i64.wrap (t2 : Int) = (t2 : Int) := IntWalk.i64_in _ ⟨by omega, by omega⟩
              clear hfin HN b15 b2
              go_wp2_with fail
              go_quiet (first | (go_at_call 64; with_reducible exact Calls.quiet_of (KA1.out _)) | (go_at_call 64; with_reducible exact Calls.quiet_of (KA2.out _)))
              have HK2 := Lib.hid (hK.out.later (bdn wr nq))
              have d16 : (wr.drewN nq).cell? ⟨gw, t16, none⟩ = some (.int .u32 (x16 : Int)) := c16
              have d7 : (wr.drewN nq).cell? ⟨gw, t7, none⟩ = some (.int .u32 (x7 : Int)) := c7
              have d2 : (wr.drewN nq).cell? ⟨gw, t2, none⟩ = some (.int .u32 (x2 : Int)) := c2
              have d0 : (wr.drewN nq).cell? ⟨gw, k, none⟩ = some (.int .u32 (y0 : Int)) := c0
              have g0 : (wr.drewN nq).frozen? ⟨gw, k, none⟩ = false := f0
              clear c16 c15 c7 c2 c0 f0 hK
              generalize wr.drewN nq = wq at *
              simp only [Exit.then]
              apply_assumption
              go_wp2_with fail
              go_quiet (first | (go_at_call 64; with_reducible exact Calls.quiet_of (KB1.out _)) | (go_at_call 64; with_reducible exact Calls.quiet_of (KB2.out _)))
              have HK3 := Lib.hid (HK2.out.later (bdn wq nq))
              have c16 : (wq.drewN nq).cell? ⟨gw, t16, none⟩ = some (.int .u32 (x16 : Int)) := d16
              have c7 : (wq.drewN nq).cell? ⟨gw, t7, none⟩ = some (.int .u32 (x7 : Int)) := d7
              have c0 : (wq.drewN nq).cell? ⟨gw, k, none⟩ = some (.int .u32 (y0 : Int)) := d0
              have f0 : (wq.drewN nq).frozen? ⟨gw, k, none⟩ = false := g0
              clear d16 d7 d2 d0 g0 HK2
              generalize wq.drewN nq = wp at *
              simp only [Exit.then]
              apply_assumption
              go_wp2_with fail
              go_region
              all_goals
                go_wp2
                go_roundw
                case rel => exact ⟨k + 1, by omega, by omega, by go_num, Lib.hid ((HPUT.out _ HK3.out).later (bd1 _))⟩
                case measure => simp [intOf]; omega
            ·
              obtain rfl : k = 64 := by omega
              have hfin : schA s 64 = sch s 64 := by unfold schA; simp
              rw [hfin] at hK
              clear hfin
              obtain ⟨Wd, hWd⟩ : ∃ Wd, sch s 64 = Wd := ⟨_, rfl⟩
              rw [hWd] at hK HNX
              have hWl : Wd.length = 64 := by rw [← hWd, sch_len]
              have hWs : small Wd := by rw [← hWd]; exact sch_lt s HSZ.out 64
              have HWL := Lib.hid hWl
              have HWS := Lib.hid hWs
              clear hWd hWl hWs
              obtain ⟨R, hR⟩ : ∃ R, rds KS Wd H = R := ⟨_, rfl⟩
              rw [hR] at HNX
              have HROK := Lib.hid (rds_ok KS Wd H HHOK.out.1 HHOK.out.2)
              rw [hR] at HROK
              have HR0 : Hid (rds (KS.drop 0) (Wd.drop 0) H = R) := Lib.hid hR
              clear hR
              go_wp2_with fail
              rename_i K21 aK21
              refine rt_T w gk gh gw H Wd R wr _ _ K21 _ _ _ _ _ _ _ _ _ _ _ _ _ _ _ _ _ _ _ _ _ _ _ _ _ _ _ _ _ _ _ _ _ _ _ _ _ _ _ _ _ _ _ _ _ _ _ _ _ _ _ _ _ _ _ _ _ _ _ _ _ _ _ _ _ _ _ _ _ _ _ _ _ _ _ _ _ _ _ _ _ _ _ _ _ _ _ _ _ _ _ _ _ _ _ _ _ _ _ _ _ _ _ _ _ _ _ _ _ _ _ _ _ _ _ _ _ _ _ _ _ _ _ _ _ _ _ _ _ _ _ _ _ _ _ _ _ _ _ _ _ _ _ _ _ _ _ _ _ _ _ _ _ _ _ _ _ _ _ _ _ _ _ _ _ _ _ _ _ _ _ _ _ _ _ _ _ _ _ _ _ _ _ _ _ _ _ _ _ _ _ _ _ _ _ _ _ _ _ _ _ _ _ _ _ _ _ _ _ _ _ _ _ _ _ _ _ _ _ _ _ _ _ _ _ _ _ _ _ _ _ _ _ _ _ _ _ _ _ _ _ _ _ _ _ _ _ _ _ _ _ _ _ _ _ _ _ _ _ _ _ _ _ _ _ _ _ _ _ _ _ _ _ _ _ _ _ _ _ _ _ _ _ _ _ _ _ _ _ _ _ _ _ _ _ _ _ _ HHOK HWL HWS HROK HR0 hK ?_ (fun a w h => aK21 a w h)
              intro aa wz hz
              obtain ⟨x, rfl, h1⟩ := hz
              rw [← HNX.out] at h1
              have HAP : Hid (a + 64 = 64 * (b + 1)) := Lib.hid (by have := HA.out; omega)
              have ha26 : a ≤ 260000 := by have := HA.out; omega
              clear hK
              apply_assumption
              go_wp2
              go_roundw
              case rel => exact ⟨b + 1, by omega, by rw [← HAP.out]; go_num, h1⟩
              case measure => have h1 := HAP.out; have h2 := HA.out; simp [intOf]; omega
    ·
      obtain rfl : b = N := by omega
      obtain ⟨H, hH⟩ : ∃ H, hsn t b = H := ⟨_, rfl⟩
      have HOK8 := Lib.hid (hsn_ok t b).1
      rw [hH] at hT HSUM HOK8
      have hat : ¬ ((64 * b : Nat) : Int) < (t.size : Int) := by have := HIT.out; omega
      obtain ⟨a, ha⟩ : ∃ a, a = 64 * b := ⟨_, rfl⟩
      rw [← ha] at hat ⊢
      have hmk := make_bytes wr
      clear hH ha
      go_upto_region 36 with fail
      refine gen_wp (S := fun wz => Hid (OX w gk gh wr.heap.size H (outB H 0) wz)) (Lib.hid (by rw [outB_0]; exact OX.fresh hT.out)) ?_
      intro W1 H1
      clear hT hmk
      generalize wr.heap.size = go at *
      go_wp2_with fail
      go_loopw [22] (fun iv wr => ∃ i : Nat, i ≤ 32 ∧ iv = .int .i64 (i : Int) ∧ Hid (OX w gk gh go H (outB H i) wr)) (fun iv _ => 32 - (intOf iv).toNat)
      case atStart => exact ⟨0, Nat.zero_le _, rfl, H1⟩
      case round =>
        clear H1
        obtain ⟨i, hi, rfl, hO⟩ := hrel
        by_cases hi32 : i < 32
        ·
          refine rtm_O w i gk gh go H wr _ _ _ _ _ _ _ _ _ _ _ _ _ _ _ _ _ _ _ _ _ _ _ _ _ _ _ _ _ _ _ _ _ _ _ _ _ _ _ _ _ _ _ _ _ _ _ _ _ _ _ _ _ _ _ _ _ _ _ _ _ _ _ _ _ _ _ _ _ _ _ _ _ _ _ _ _ _ _ _ _ _ _ _ _ _ _ _ _ _ _ _ _ _ _ _ _ _ _ _ _ _ _ _ _ _ _ _ _ _ _ _ _ _ _ _ _ _ _ _ _ _ _ _ _ _ _ _ _ _ _ _ _ _ _ _ _ _ _ _ _ _ _ _ _ _ _ _ _ _ _ _ _ _ _ _ _ _ _ _ _ _ _ _ _ _ _ _ _ _ _ _ _ _ _ _ _ _ _ _ _ _ _ _ _ _ _ _ _ _ _ _ _ _ _ _ _ _ _ _ _ _ _ _ _ _ _ _ _ _ _ _ _ _ _ _ _ _ _ _ _ _ _ _ _ _ _ _ _ _ _ _ _ _ _ _ _ _ _ _ _ _ _ _ _ _ _ _ _ _ _ _ _ _ _ _ _ _ _ _ _ _ _ _ _ _ _ _ _ _ _ _ _ _ _ _ _ _ _ _ _ _ _ _ _ _ _ _ _ _ _ _ _ _ _ _ _ _ _ _ HOK8 hi hi32 hO ?_
          intro aa wz hz
          obtain ⟨x, rfl, h1⟩ := hz
          go_roundw
          case rel => exact ⟨i + 1, by omega, by go_num, h1⟩
          case measure => simp [intOf]; omega
        ·
          obtain rfl : i = 32 := by omega
          have hl32 : (outB H 32).length = 32 := outB_len H HOK8.out 32 (by omega)
          have hcv := conv_bb hO.out.2.1 hl32
          rw [outB_32 H HOK8.out, ← HSUM.out] at hcv
          have HBE := Lib.hid hO.out.1.2.2.2.2
          clear hO hl32
          go_wp2
          go_ret
          exact ⟨rfl, HBE.out⟩
end Go.Proofs.YtjkpopdjmmgbbaaGreat.Dg

namespace Go.Proofs.YtjkpopdjmmgbbaaGreat.Fi
open Go.RowKit
theorem sums : Sums := fun l hl w => Dg.rtext_any l (by omega) w
theorem seals_all (a0 a1 : ByteArray) (w : World) : Calls Tryz.prog 3 #[.string a0, .string a1] w fun e w' => e = .returned (.bool true) ∧ Below w.heap.size w w' := seals_walk (Lib.hid sums) a0 a1 w
end Go.Proofs.YtjkpopdjmmgbbaaGreat.Fi
