/- FrameRows: the law's walk. -/
import Derived.Test.YtlochpnifjmefaaRQ
import Derived.Test.YtlochpnifjmefaaRP
import Derived.Test.YtlochpnifjmefaaBA
namespace Go.Proofs.Ytlochpnifjmefaa
open Go.RowKit

/-- Behind the first j frames. -/
def RI (fs : List Fri) (w : World) (sv nv iv : Value) (wr : World) : Prop :=
  ∃ j, j ≤ fs.length ∧ iv = .int .i64 j ∧ sv = .string (str (flatF (gds (fs.take j)))) ∧ nv = .int .i64 ((gds (fs.take j)).length : Nat) ∧ (∀ f ∈ fs.take j, f.2.2.size ≤ 2000) ∧ Below w.heap.size w wr

set_option maxRecDepth 100000 in
set_option maxHeartbeats 4000000 in
theorem rows_walk (fs : List Fri) (at0 : Option Addr) (cap b off : Nat) (s : ByteArray) (hs : s.size ≤ 2000) (h8 : fs.length ≤ 8) (w : World) (hat : 0 < fs.length → at0 = some ⟨b, off, none⟩) (hbw : 0 < fs.length → b < w.heap.size) (hlie : Lie w b off fs) (hep : ∀ f ∈ fs, f.2.1 ≤ 18446744073709551615) :
    Calls Try.prog 6 #[.slice at0 fs.length cap, .string s] w fun e w' => e = .returned (.bool true) ∧ Below w.heap.size w w' := by
  obtain ⟨n, hn⟩ : ∃ n, n = fs.length := ⟨_, rfl⟩
  rw [← hn] at h8 ⊢
  have HN := Lib.hid hn
  have HLIE := Lib.hid hlie
  have HEP := Lib.hid hep
  have HAT := Lib.hid hat
  have HBW := Lib.hid hbw
  clear hn hlie hep hat hbw
  have hs1 : ¬ (s.size : Int) > 2000 := by omega
  have hn1 : ¬ (n : Int) > 8 := by omega
  go_enter Try.func6, Try.ntmps6
  go_wp2_with fail
  refine (awake8_any _).mono ?_
  rintro r w1 ⟨rfl, hb1⟩
  have HB1 := Lib.hid hb1
  clear hb1
  go_wp2
  go_loopw [5, 6, 35] (fun sv nv iv wr => RI fs w sv nv iv wr) (fun _ _ i _ => n - (intOf i).toNat)
  case atStart => exact ⟨0, Nat.zero_le _, rfl, rfl, rfl, by simp, HB1.out⟩
  case round =>
    obtain ⟨j, hj, rfl, rfl, rfl, hg, hbx⟩ := hrel
    rw [← HN.out] at hj
    by_cases hjn : j < n
    · have hjl : j < fs.length := by rw [← HN.out]; exact hjn
      have hat := HAT.out (by omega)
      subst hat
      have hbw := HBW.out (by omega)
      obtain ⟨f, hf⟩ : ∃ f, f = fs[j] := ⟨_, rfl⟩
      obtain ⟨k, e, bd⟩ := f
      obtain ⟨c0, c1, c2⟩ := HLIE.out.later hbx hbw j hjl
      rw [← hf] at c0 c1 c2
      have he := HEP.out _ (List.getElem_mem hjl)
      rw [← hf] at he
      simp only at c0 c1 c2 he
      have hts := take_snoc' fs j hjl
      rw [← hf] at hts
      have HTS := Lib.hid hts
      have HG := Lib.hid hg
      have HBX := Lib.hid hbx
      have HE := Lib.hid he
      obtain ⟨A, hA⟩ : ∃ A, A = flatF (gds (fs.take j)) := ⟨_, rfl⟩
      obtain ⟨m, hm⟩ : ∃ m, m = (gds (fs.take j)).length := ⟨_, rfl⟩
      rw [← hA, ← hm]
      have HA := Lib.hid hA
      have HM := Lib.hid hm
      have hml : m ≤ 8 := by have := gds_len (fs.take j); rw [List.length_take] at this; omega
      have hAl : A.length ≤ 16160 := by
        rw [hA]
        have := gds_le (fs.take j) hg
        rw [List.length_take] at this
        omega
      clear hf hg hbx he hA hm hts
      by_cases hb2 : 2000 < bd.size
      · go_wp2
        go_ret
        exact ⟨rfl, HBX.out.trans ((alloc_below wr _).mono HBX.out.size)⟩
      · go_wp2_with fail
        obtain ⟨wa, hwa⟩ : ∃ wa, wa = wr.alloc (.cells #[.int .i64 k, .int .u64 (e : Int), .string bd] 51) := ⟨_, rfl⟩
        rw [← hwa]
        have HBA := Lib.hid (HBX.out.trans ((show Below wr.heap.size wr wa by rw [hwa]; exact alloc_below _ _).mono HBX.out.size))
        clear hwa c0 c1 c2
        by_cases hk : k < 1 ∨ 255 < k
        · have hgb : gdb (k, e, bd) = false := by simp [gdb]; omega
          refine (bytes_kind k e bd hk _).mono ?_
          rintro r w2 ⟨rfl, hb2⟩
          have HB2 := Lib.hid (HBA.out.trans (hb2.mono HBA.out.size))
          have HGB := Lib.hid hgb
          have hb2000 : bd.size ≤ 2000 := by omega
          clear hb2 hgb
          go_wp2
          go_roundw
          case rel =>
            refine ⟨j + 1, by omega, by go_num, ?_, ?_, ?_, HB2.out⟩
            · rw [HTS.out, gds_no _ _ HGB.out, HA.out]
            · rw [HTS.out, gds_no _ _ HGB.out, HM.out]
            · intro f hf
              rw [HTS.out, List.mem_append] at hf
              rcases hf with hf | hf
              · exact HG.out f hf
              · simp at hf; rw [hf]; exact hb2000
          case measure => simp [intOf]; omega
        · obtain ⟨kk, rfl⟩ := Int.eq_ofNat_of_zero_le (show 0 ≤ k by omega)
          have hgb : gdb ((kk : Int), e, bd) = true := by simp [gdb]; omega
          have hb2000 : bd.size ≤ 2000 := by omega
          refine (bytes_ok kk e bd (by omega) (by omega) HE.out (by omega) _).mono ?_
          rintro r w2 ⟨rfl, hb2⟩
          have HB2 := Lib.hid (HBA.out.trans (hb2.mono HBA.out.size))
          have HGB := Lib.hid hgb
          obtain ⟨Fb, hFb⟩ : ∃ Fb, Fb = frameL kk e bd.data.toList := ⟨_, rfl⟩
          have hFl : Fb.length ≤ 2020 := by rw [hFb, frameL_length]; simp; omega
          rw [← hFb]
          have hadd := fun W => run_add_bytes A Fb (by omega) W
          obtain ⟨Z, hZ⟩ : ∃ Z, Z = A ++ Fb := ⟨_, rfl⟩
          rw [← hZ] at hadd
          have HFB := Lib.hid hFb
          have HZ := Lib.hid hZ
          clear hb2 hgb hFb hZ hk hFl
          go_wp2
          go_roundw
          case rel =>
            refine ⟨j + 1, by omega, by go_num, ?_, ?_, ?_, HB2.out⟩
            · rw [HTS.out, gds_yes _ _ HGB.out, flatF_snoc, HZ.out, HA.out, HFB.out]; rfl
            · rw [HTS.out, gds_yes _ _ HGB.out, List.length_append, HM.out]; go_num
            · intro f hf
              rw [HTS.out, List.mem_append] at hf
              rcases hf with hf | hf
              · exact HG.out f hf
              · simp at hf; rw [hf]; exact hb2000
          case measure => simp [intOf]; omega
    · have ejl : j = fs.length := by rw [← HN.out]; omega
      have hft : fs.take j = fs := by rw [ejl]; exact List.take_length
      have ejn : j = n := by omega
      rw [hft] at hg ⊢
      rw [ejn]
      have hAl := gds_le fs hg
      rw [← HN.out] at hAl
      have hgd := gds_gd fs HEP.out
      have hml := gds_len fs
      rw [← HN.out] at hml
      obtain ⟨l0, t0, hr0⟩ := runs_total _ s (Nat.le_refl _)
      have hrun := runs_flat (gds fs) hgd s.data.toList l0 t0 (by rw [str_data]; exact hr0)
      have hadd : ∀ W, (Op.stringOp .add (str (flatF (gds fs))) s).run Try.prog W = .ok (.string (str (flatF (gds fs) ++ s.data.toList))) W := by
        intro W
        have := run_add_bytes (flatF (gds fs)) s.data.toList (by simp; omega) W
        rw [str_data] at this
        exact this
      obtain ⟨T, hT⟩ : ∃ T, T = str (flatF (gds fs) ++ s.data.toList) := ⟨_, rfl⟩
      have hTz : T.size ≤ 20000 := by rw [hT, size_str, List.length_append]; simp; omega
      rw [← hT] at hadd hrun
      have hmr : (gds fs).length ≤ ((gds fs).map toF ++ l0).length := by simp
      generalize (gds fs).map toF ++ l0 = l1 at *
      generalize flatF (gds fs) = A at *
      generalize (gds fs).length = m at *
      have HRUN := Lib.hid hrun
      have HBX := Lib.hid hbx
      have HMR := Lib.hid hmr
      have KA := Lib.hid (fun w => all_any T (by omega) w)
      clear hft ejl ejn hj hjn hg hgd hr0 hrun hbx hmr hT hAl hml
      go_wp2_with fail
      refine (KA.out _).mono ?_
      rintro x w2 ⟨v1, l, t, rfl, hr1, hl20, ho1, hb2⟩
      obtain ⟨rfl, rfl⟩ := HRUN.out.det hr1
      obtain ⟨o, cap1, g1, rfl, hog, hcells⟩ := own_opt l1 ho1
      have HB2 := Lib.hid (HBX.out.trans (hb2.mono HBX.out.size))
      have HOG := Lib.hid hog
      have HCE := Lib.hid hcells
      obtain ⟨q, hq⟩ : ∃ q, q = l1.length := ⟨_, rfl⟩
      rw [← hq] at hl20 ⊢
      have HQ := Lib.hid hq
      have hq1 : q ≤ 1000 := by omega
      clear hr1 ho1 hb2 hog hcells hq hl20
      have HR0 : Hid (Runs (T.extract 0 T.size) (l1.drop 0) t0) := Lib.hid (by
        have e : T.extract 0 T.size = T := by simp
        rw [e]; exact HRUN.out)
      go_wp2_with fail
      go_loopw [14, 66] (fun av iv wr => ∃ j a : Nat, j ≤ q ∧ iv = .int .i64 j ∧ av = .int .i64 a ∧ a ≤ T.size ∧ Runs (T.extract a T.size) (l1.drop j) t0 ∧ Below w2.heap.size w2 wr) (fun _ i _ => q - (intOf i).toNat)
      case atStart => exact ⟨0, 0, Nat.zero_le _, rfl, rfl, Nat.zero_le _, HR0.out, Below.refl _ _⟩
      case round =>
        obtain ⟨j, a, hj, rfl, rfl, haT, hrn, hbw⟩ := hrel
        have iaT : (a : Int) ≤ (T.size : Int) := by omega
        have ia0 : (0 : Int) ≤ (a : Int) := by omega
        have K5 := Lib.hid (rnext_any (T.extract a T.size))
        by_cases hjq : j < q
        · have hjl : j < l1.length := by rw [← HQ.out]; exact hjq
          obtain ⟨ho, hg1⟩ := HOG.out (by omega)
          subst ho
          obtain ⟨c0, c1, c2⟩ := HCE.out j hjl
          rw [List.drop_eq_getElem_cons hjl] at hrn
          obtain ⟨hcode, hfq, hrest⟩ := runs_cons hrn
          rw [hfq] at c0 c1 c2
          simp only at c0 c1 c2
          obtain ⟨r1, r2, r3, _, r5⟩ := r_ok hcode
          have k5 := K5.out
          rw [r1, r2, r3, r5, hcode] at k5
          obtain ⟨hre, hle⟩ := rest_ext T a haT hcode
          rw [hre] at hrest
          obtain ⟨k, hk⟩ : ∃ k, k = kindS (T.extract a T.size) := ⟨_, rfl⟩
          obtain ⟨e, he⟩ : ∃ e, e = epS (T.extract a T.size) := ⟨_, rfl⟩
          obtain ⟨bd, hbd⟩ : ∃ bd, bd = bodyS (T.extract a T.size) := ⟨_, rfl⟩
          obtain ⟨z, hz⟩ : ∃ z, z = lenN (T.extract a T.size) + 20 := ⟨_, rfl⟩
          rw [← hk, ← he, ← hbd, ← hz] at k5
          rw [← hk] at c0
          rw [← he] at c1
          rw [← hbd] at c2
          rw [← hz] at hrest hle
          have d0 := (hbw.cell (p := ⟨g1, j * 3, none⟩) hg1).trans c0
          have d1 := (hbw.cell (p := ⟨g1, j * 3 + 1, none⟩) hg1).trans c1
          have d2 := (hbw.cell (p := ⟨g1, j * 3 + 2, none⟩) hg1).trans c2
          have HR := Lib.hid hrest
          have KK := Lib.hid k5
          have HBW2 := Lib.hid hbw
          have HBT := Lib.hid (HB2.out.trans (hbw.mono HB2.out.size))
          clear hk he hbd hz hrest k5 hbw hrn hcode hfq r1 r2 r3 r5 hre c0 c1 c2 K5 hg1 HOG
          go_wp2_with fail
          obtain ⟨wa, hwa⟩ : ∃ wa, wa = wr.alloc (.cells #[.int .i64 (k : Int), .int .u64 (e : Int), .string bd] 51) := ⟨_, rfl⟩
          rw [← hwa]
          have hba : Below wr.heap.size wr wa := by rw [hwa]; exact alloc_below _ _
          have HX := Lib.hid (show wa.cell? ⟨wr.heap.size, 0, none⟩ = some (.int .i64 (k : Int)) ∧ wa.cell? ⟨wr.heap.size, 1, none⟩ = some (.int .u64 (e : Int)) ∧ wa.cell? ⟨wr.heap.size, 2, none⟩ = some (.string bd) by rw [hwa]; exact three_new _ _ _ _ _)
          have HLx := Lib.hid (show wr.heap.size < wa.heap.size by rw [hwa]; exact alloc_lt _ _)
          have HBA := Lib.hid (HBW2.out.trans (hba.mono HBW2.out.size))
          clear hwa hba d0 d1 d2
          refine (KK.out _).mono ?_
          rintro r w5 ⟨rfl, hb5⟩
          have HB5 := Lib.hid (HBA.out.trans (hb5.mono HBA.out.size))
          have HX5 := Lib.hid (three_below HX.out hb5 HLx.out)
          have HLx5 := Lib.hid (Nat.lt_of_lt_of_le HLx.out hb5.size)
          clear hb5
          have hbc : Below w5.heap.size w5 (w5.alloc (.cells #[.int .i64 (k : Int), .int .u64 (e : Int), .string bd] 54)) := alloc_below _ _
          have HBc := Lib.hid (HB5.out.trans (hbc.mono HB5.out.size))
          obtain ⟨x0, x1, x2⟩ := three_below HX5.out hbc HLx5.out
          obtain ⟨z0, z1, z2⟩ := three_new w5 (.int .i64 (k : Int)) (.int .u64 (e : Int)) (.string bd) 54
          clear hbc
          unfold rnV
          go_wp2
          go_roundw
          case rel => exact ⟨j + 1, a + z, by omega, by go_num, by go_num, hle, HR.out, HBc.out⟩
          case measure => simp [intOf]; omega
        · have ejq : j = l1.length := by rw [← HQ.out]; omega
          rw [ejq, List.drop_length] at hrn
          obtain ⟨hcode, ht⟩ := runs_end hrn
          have k5 := K5.out
          have hlt := code_lt (T.extract a T.size)
          generalize codeS (T.extract a T.size) = c at *
          have hq5 : ((c : Int) != 0) = true := by rw [bne_iff_ne]; omega
          have hmq : (m : Int) ≤ (q : Int) := by have := HMR.out; rw [← HQ.out] at this; omega
          obtain ⟨k, hk⟩ : ∃ k, k = rK (T.extract a T.size) := ⟨_, rfl⟩
          obtain ⟨e, he⟩ : ∃ e, e = rE (T.extract a T.size) := ⟨_, rfl⟩
          obtain ⟨bd, hbd⟩ : ∃ bd, bd = rB (T.extract a T.size) := ⟨_, rfl⟩
          obtain ⟨z, hz⟩ : ∃ z, z = rN (T.extract a T.size) := ⟨_, rfl⟩
          rw [← hk, ← he, ← hbd, ← hz] at k5
          subst ht
          have KK := Lib.hid k5
          have HBT := Lib.hid (HB2.out.trans (hbw.mono HB2.out.size))
          clear hk he hbd hz k5 hbw hrn hcode K5 ejq hlt
          go_wp2_with fail
          refine (KK.out _).mono ?_
          rintro r w5 ⟨rfl, hb5⟩
          have HB5 := Lib.hid (HBT.out.trans (hb5.mono HBT.out.size))
          clear hb5
          unfold rnV
          go_wp2
          go_ret
          exact ⟨rfl, HB5.out.trans ((alloc_below w5 _).mono HB5.out.size)⟩

theorem rows_great (n : Nat) (at0 : Option Addr) (cap : Nat) (s : ByteArray) (hg : 8 < n ∨ 2000 < s.size) (w : World) :
    Calls Try.prog 6 #[.slice at0 n cap, .string s] w fun e w' => e = .returned (.bool true) ∧ Below w.heap.size w w' := by
  rcases Nat.lt_or_ge 8 n with h | h
  · have h1 : (n : Int) > 8 := by omega
    clear hg
    go_enter Try.func6, Try.ntmps6
    go_wp2_with fail
    refine (awake8_any _).mono ?_
    rintro r w1 ⟨rfl, hb1⟩
    go_wp2
    go_ret
    exact ⟨rfl, hb1⟩
  · have h1 : ¬ (n : Int) > 8 := by omega
    have h2 : (s.size : Int) > 2000 := by omega
    clear hg
    go_enter Try.func6, Try.ntmps6
    go_wp2_with fail
    refine (awake8_any _).mono ?_
    rintro r w1 ⟨rfl, hb1⟩
    go_wp2
    go_ret
    exact ⟨rfl, hb1⟩
end Go.Proofs.Ytlochpnifjmefaa
