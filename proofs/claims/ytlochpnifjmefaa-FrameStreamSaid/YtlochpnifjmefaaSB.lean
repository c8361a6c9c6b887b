/- FrameStream: the law's walk. -/
import Derived.Test.YtlochpnifjmefaaSA
namespace Go.Proofs.Ytlochpnifjmefaa
open Go.RowKit

set_option maxRecDepth 100000 in
set_option maxHeartbeats 4000000 in
theorem stream_some (fs : List Fri) (cap b off a : Nat) (h1 : 1 ≤ fs.length) (h8 : fs.length ≤ 8) (ha : a < 65536) (w : World) (hbw : b < w.heap.size) (hlie : Lie w b off fs) (hep : ∀ f ∈ fs, f.2.1 ≤ 18446744073709551615) :
    Calls Try.prog 8 #[.slice (some ⟨b, off, none⟩) fs.length cap, .int .u16 a] w fun e w' => e = .returned (.bool true) ∧ Below w.heap.size w w' := by
  obtain ⟨n, hn⟩ : ∃ n, n = fs.length := ⟨_, rfl⟩
  rw [← hn] at h1 h8 ⊢
  have HN := Lib.hid hn
  have HLIE := Lib.hid hlie
  have HEP := Lib.hid hep
  clear hn hlie hep
  go_enter Try.func8, Try.ntmps8
  go_wp2_with fail
  refine (awake8_any _).mono ?_
  rintro r w1 ⟨rfl, hb1⟩
  have HB1 := Lib.hid hb1
  clear hb1
  go_wp2
  go_loopw [5, 6, 27] (fun sv ev iv wr => SI fs w sv ev iv wr) (fun _ _ i _ => n - (intOf i).toNat)
  case atStart => exact ⟨0, Nat.zero_le _, rfl, rfl, by simp, World.ownsRow_nil _ _ _ _, HB1.out⟩
  case round =>
    obtain ⟨j, hj, rfl, rfl, hg, hown, hbx⟩ := hrel
    rw [← HN.out] at hj
    by_cases hjn : j < n
    · have hjl : j < fs.length := by rw [← HN.out]; exact hjn
      obtain ⟨f, hf⟩ : ∃ f, f = fs[j] := ⟨_, rfl⟩
      obtain ⟨k, e, bd⟩ := f
      obtain ⟨c0, c1, c2⟩ := HLIE.out.later hbx hbw j hjl
      rw [← hf] at c0 c1 c2
      have he := HEP.out _ (List.getElem_mem hjl)
      rw [← hf] at he
      simp only at c0 c1 c2 he
      have HF := Lib.hid hf
      have HG := Lib.hid hg
      have HO := Lib.hid hown
      have HBX := Lib.hid hbx
      have HE := Lib.hid he
      obtain ⟨A, hA⟩ : ∃ A, A = flatF (fs.take j) := ⟨_, rfl⟩
      rw [← hA]
      have HA := Lib.hid hA
      clear hf hg hown hbx he hA
      go_wp2_with fail
      obtain ⟨wa, hwa⟩ : ∃ wa, wa = wr.alloc (.cells #[.int .i64 k, .int .u64 (e : Int), .string bd] 51) := ⟨_, rfl⟩
      rw [← hwa]
      have hba : Below wr.heap.size wr wa := by rw [hwa]; exact (Below.refl _ _).alloc (Nat.le_refl _) _
      have HFA := Lib.hid (show Fr wa wr.heap.size k e bd by rw [hwa]; exact Fr.new _ _ _ _)
      have HLA := Lib.hid (show wr.heap.size < wa.heap.size by rw [hwa]; simp)
      have HBA := Lib.hid (HBX.out.trans (hba.mono HBX.out.size))
      have HOA := Lib.hid (owns_later HO.out hba)
      clear hba hwa c0 c1 c2
      by_cases hk : k < 1 ∨ 255 < k
      · refine (bytes_kind k e bd hk _).mono ?_
        rintro r w2 ⟨rfl, hb2⟩
        have HB2 := Lib.hid (HBA.out.trans (hb2.mono HBA.out.size))
        clear hb2
        go_wp2
        go_ret
        exact ⟨rfl, HB2.out⟩
      · by_cases hbl : 8192 < bd.size
        · refine (bytes_long k e bd (by omega) (by omega) hbl _).mono ?_
          rintro r w2 ⟨rfl, hb2⟩
          have HB2 := Lib.hid (HBA.out.trans (hb2.mono HBA.out.size))
          clear hb2
          go_wp2
          go_ret
          exact ⟨rfl, HB2.out⟩
        · obtain ⟨kk, rfl⟩ := Int.eq_ofNat_of_zero_le (show 0 ≤ k by omega)
          refine (bytes_ok kk e bd (by omega) (by omega) HE.out (by omega) _).mono ?_
          rintro r w2 ⟨rfl, hb2⟩
          have HB2 := Lib.hid (HBA.out.trans (hb2.mono HBA.out.size))
          have HO2 := Lib.hid (owns_later HOA.out hb2)
          obtain ⟨c0, c1, c2⟩ := HFA.out.below hb2 HLA.out
          clear hb2
          have hB0 := HB2.out.size
          by_cases hb5 : 500 < bd.size
          · go_wp2
            go_ret
            exact ⟨rfl, HB2.out⟩
          · obtain ⟨Fb, hFb⟩ : ∃ Fb, Fb = frameL kk e bd.data.toList := ⟨_, rfl⟩
            have hFj : frameOf fs[j] = Fb := by rw [← HF.out, hFb]; rfl
            have hGj : gd fs[j] ∧ fs[j].2.2.size ≤ 500 := by
              rw [← HF.out]
              exact ⟨⟨by show (1 : Int) ≤ kk; omega, by show (kk : Int) ≤ 255; omega, by show bd.size ≤ 8192; omega, HE.out⟩, by show bd.size ≤ 500; omega⟩
            have hAl : A.length ≤ 4160 := by
              rw [HA.out]
              have := flat_le (fs.take j) (fun f hf => (HG.out f hf).2)
              rw [List.length_take] at this
              omega
            have hFl : Fb.length ≤ 520 := by rw [hFb, frameL_length]; simp; omega
            rw [← hFb]
            have hadd := fun W => run_add_bytes A Fb (by omega) W
            obtain ⟨Z, hZ⟩ : ∃ Z, Z = A ++ Fb := ⟨_, rfl⟩
            rw [← hZ] at hadd
            have HFJ := Lib.hid hFj
            have HGJ := Lib.hid hGj
            have HZ := Lib.hid hZ
            clear hFb hFj hGj hZ hk hbl
            go_wp2_with (first
              | (at_builtin; go_must (refine wpList_append_num w2 rfl (.tmp 47) (.tmp 50) rfl w.heap.size u6 j (endsR (fs.take j) 0) rfl HO2.out _ Z.length (by rw [size_str]) rfl (by omega) (by omega) ?_); intro v1 w3 hown3 hb3))
            go_roundw
            case rel =>
              rw [HZ.out, HA.out, ← HFJ.out] at hown3
              rw [HZ.out, HA.out, ← HFJ.out]
              exact SI_step fs w j hjl HG.out HGJ.out v1 w3 hown3 (HB2.out.trans hb3)
            case measure => simp [intOf]; omega
    · have ej : j = n := by omega
      have ejl : j = fs.length := by rw [ej]; exact HN.out
      have hft : fs.take j = fs := by rw [ejl]; exact List.take_length
      rw [hft] at hg hown ⊢
      rw [ej] at hown ⊢
      have hgd : ∀ f ∈ fs, gd f := fun f hf => (hg f hf).1
      have hSl := flat_le fs (fun f hf => (hg f hf).2)
      rw [← HN.out] at hSl
      obtain ⟨S, hS⟩ : ∃ S, S = str (flatF fs) := ⟨_, rfl⟩
      have hSz : S.size = (flatF fs).length := by rw [hS, size_str]
      rw [← hS]
      have hS6 : S.size ≤ 4160 := by omega
      have KA := Lib.hid (fun w => all_any S (by omega) w)
      have hrun := runs_flat fs hgd [] [] (str []) runs_none
      rw [List.append_nil, List.append_nil, ← hS] at hrun
      have HRUN := Lib.hid hrun
      have HGD := Lib.hid hgd
      have HS := Lib.hid hS
      have HBX := Lib.hid hbx
      have HSZ := Lib.hid hSz
      -- the ends, as a block
      have hev : ∃ g2 cap2, u6 = .slice (some ⟨g2, 0, none⟩) n cap2 ∧ ∀ i x, (endsR fs 0)[i]? = some x → wr.cell? ⟨g2, i, none⟩ = some (.int .i64 ((x : Nat) : Int)) := by
        rcases hown.2 with ⟨_, hn0⟩ | ⟨g2, cap2, cur, he, _⟩
        · omega
        · refine ⟨g2, cap2, he, fun i x hx => ?_⟩
          rw [he] at hown
          exact own_num _ hown i x hx
      obtain ⟨g2, cap2, rfl, hce⟩ := hev
      have hg2 : g2 < wr.heap.size := (hown.lt g2 rfl).2
      have HCE := Lib.hid hce
      have HG2 := Lib.hid hg2
      clear hg hown hgd hSl hS hSz hrun hbx hce hg2 hft ejl ej hj hjn
      go_wp2_with fail
      refine (KA.out _).mono ?_
      rintro x w2 ⟨v1, l1, t1, rfl, hr1, _, ho1, hb2⟩
      obtain ⟨rfl, rfl⟩ := HRUN.out.det hr1
      have hv1 : ∃ g1 cap1, v1 = .slice (some ⟨g1, 0, none⟩) n cap1 ∧ Lie w2 g1 0 fs := by
        have hlen : (fs.map toF).length = n := by rw [List.length_map]; exact HN.out.symm
        rcases ho1.2 with ⟨_, hn0⟩ | ⟨g1, cap1, cur, he, _⟩
        · omega
        · rw [hlen] at he
          rw [he] at ho1
          exact ⟨g1, cap1, he, own_lie fs HGD.out ho1⟩
      obtain ⟨g1, cap1, rfl, hl1⟩ := hv1
      have HB2 := Lib.hid (HBX.out.trans (hb2.mono HBX.out.size))
      have HL1 := Lib.hid hl1
      have HO1 := Lib.hid ho1
      have hg1 : g1 < w2.heap.size := (ho1.lt g1 rfl).2
      have HG1 := Lib.hid hg1
      have HCE2 := Lib.hid (fun i x hx => (hb2.cell (p := ⟨g2, i, none⟩) HG2.out).trans (HCE.out i x hx))
      have HG22 := Lib.hid (Nat.lt_of_lt_of_le HG2.out hb2.size)
      rw [show str [] = (⟨#[]⟩ : ByteArray) from rfl]
      clear hr1 ho1 hb2 hl1 hg1
      obtain ⟨k, hk⟩ : ∃ k, k = a % (S.size + 1) := ⟨_, rfl⟩
      have hkl : k ≤ S.size := by
        have := Nat.mod_lt a (show 0 < S.size + 1 by omega)
        omega
      have e1 : (a : Int) % ((S.size : Int) + 1) = (k : Int) := by rw [hk]; simp
      have ik : (k : Int) ≤ (S.size : Int) := by omega
      have ik0 : (0 : Int) ≤ (k : Int) := by omega
      have KB := Lib.hid (fun w => all_any (S.extract 0 k) (by rw [ByteArray.size_extract]; omega) w)
      clear hk
      go_wp2_with fail
      try rw [e1]
      refine (KB.out _).mono ?_
      rintro x w4 ⟨v2, l2, t2, rfl, hr2, _, ho2, hb4⟩
      have hx2 : S.extract 0 k = str ((flatF fs).take k) := by
        apply ByteArray.ext
        apply Array.ext'
        rw [ext_list, HS.out, data_str, data_str]; simp
      rw [hx2] at hr2
      obtain ⟨t3, hr3⟩ := runs_cut fs k HGD.out
      obtain ⟨rfl, rfl⟩ := hr3.det hr2
      obtain ⟨m, hm⟩ : ∃ m, m = cntR fs k := ⟨_, rfl⟩
      rw [← hm] at ho2
      have hmn : m ≤ n := by rw [hm, HN.out]; exact cntR_le fs k
      have hlen2 : ((fs.take m).map toF).length = m := by rw [List.length_map, List.length_take, ← HN.out]; omega
      rw [hlen2] at ho2
      have hv2 : (v2 = .slice none 0 0 ∧ m = 0) ∨ ∃ g3 cap3, v2 = .slice (some ⟨g3, 0, none⟩) m cap3 ∧ Lie w4 g3 0 (fs.take m) := by
        rcases ho2.2 with ⟨e0, hn0⟩ | ⟨g3, cap3, cur, he, _⟩
        · exact .inl ⟨e0, hn0⟩
        · rw [he] at ho2
          exact .inr ⟨g3, cap3, he, own_lie (fs.take m) (fun f hf => HGD.out f (List.mem_of_mem_take hf)) ho2⟩
      have HB4 := Lib.hid (HB2.out.trans (hb4.mono HB2.out.size))
      have HL14 := Lib.hid (HL1.out.later hb4 HG1.out)
      have HCE4 := Lib.hid (fun i x hx => (hb4.cell (p := ⟨g2, i, none⟩) HG22.out).trans (HCE2.out i x hx))
      have HLA4 := Lib.hid (HLIE.out.later HB4.out hbw)
      have HM := Lib.hid hm
      have HMN := Lib.hid hmn
      clear hr2 hr3 ho2 hb4 hx2 hm hlen2 KA KB HL1 HO1 HCE HCE2 HG1 HG2 HG22
      rcases hv2 with ⟨rfl, hm0⟩ | ⟨g3, cap3, rfl, hl3⟩
      · have HM0 := Lib.hid hm0
        clear hm0
        go_wp2_with fail
        go_loop [16, 82] (fun c i => ∃ j : Nat, j ≤ n ∧ i = .int .i64 j ∧ c = .int .i64 (cj fs k j : Nat)) (fun _ i => n - (intOf i).toNat)
        case atStart => exact ⟨0, Nat.zero_le _, rfl, rfl⟩
        case round =>
          obtain ⟨j2, hj2, rfl, rfl⟩ := hrel
          by_cases hlt2 : j2 < n
          · obtain ⟨x, hx⟩ : ∃ x, (endsR fs 0)[j2]? = some x := ⟨_, List.getElem?_eq_getElem (by rw [endsR_length, ← HN.out]; exact hlt2)⟩
            have hcell := HCE4.out j2 x hx
            have hcm := cj_more fs k j2 x hx
            have hcl := cj_le fs k j2
            clear hx
            by_cases hxk : x ≤ k
            · rw [if_pos hxk] at hcm
              generalize cj fs k j2 = cc at *
              have HCM := Lib.hid hcm
              clear hcm
              have ixk : (x : Int) ≤ (k : Int) := by omega
              go_wp2
              go_round
              case rel => exact ⟨j2 + 1, by omega, by go_num, by rw [HCM.out]; go_num⟩
              case measure => simp [intOf]; omega
            · rw [if_neg hxk] at hcm
              generalize cj fs k j2 = cc at *
              have HCM := Lib.hid hcm
              clear hcm
              have ixk : ¬ (x : Int) ≤ (k : Int) := by omega
              go_wp2
              go_round
              case rel => exact ⟨j2 + 1, by omega, by go_num, by rw [HCM.out]; rfl⟩
              case measure => simp [intOf]; omega
          · have ej2 : j2 = fs.length := by rw [← HN.out]; omega
            have hcm : cj fs k j2 = m := by rw [ej2, cj_all]; exact HM.out.symm
            rw [hcm]
            clear hcm ej2
            have hm0 := HM0.out
            subst hm0
            go_wp2_with fail
            go_loopw [94] (fun i wr' => i = .int .i64 0 ∧ wr' = w4) (fun _ _ => 0)
            case atStart => exact ⟨rfl, rfl⟩
            case round =>
              obtain ⟨rfl, rfl⟩ := hrel
              go_wp2
              go_ret
              exact ⟨rfl, HB4.out⟩
      · have HL3 := Lib.hid hl3
        clear hl3
        go_wp2_with fail
        go_loop [16, 82] (fun c i => ∃ j : Nat, j ≤ n ∧ i = .int .i64 j ∧ c = .int .i64 (cj fs k j : Nat)) (fun _ i => n - (intOf i).toNat)
        case atStart => exact ⟨0, Nat.zero_le _, rfl, rfl⟩
        case round =>
          obtain ⟨j2, hj2, rfl, rfl⟩ := hrel
          by_cases hlt2 : j2 < n
          · obtain ⟨x, hx⟩ : ∃ x, (endsR fs 0)[j2]? = some x := ⟨_, List.getElem?_eq_getElem (by rw [endsR_length, ← HN.out]; exact hlt2)⟩
            have hcell := HCE4.out j2 x hx
            have hcm := cj_more fs k j2 x hx
            have hcl := cj_le fs k j2
            clear hx
            by_cases hxk : x ≤ k
            · rw [if_pos hxk] at hcm
              generalize cj fs k j2 = cc at *
              have HCM := Lib.hid hcm
              clear hcm
              have ixk : (x : Int) ≤ (k : Int) := by omega
              go_wp2
              go_round
              case rel => exact ⟨j2 + 1, by omega, by go_num, by rw [HCM.out]; go_num⟩
              case measure => simp [intOf]; omega
            · rw [if_neg hxk] at hcm
              generalize cj fs k j2 = cc at *
              have HCM := Lib.hid hcm
              clear hcm
              have ixk : ¬ (x : Int) ≤ (k : Int) := by omega
              go_wp2
              go_round
              case rel => exact ⟨j2 + 1, by omega, by go_num, by rw [HCM.out]; rfl⟩
              case measure => simp [intOf]; omega
          · have ej2 : j2 = fs.length := by rw [← HN.out]; omega
            have hcm : cj fs k j2 = m := by rw [ej2, cj_all]; exact HM.out.symm
            rw [hcm]
            clear hcm ej2
            have him : (m : Int) ≤ 8 := by have := HMN.out; omega
            go_wp2_with fail
            go_loopw [94] (fun i wr' => ∃ j q : Nat, j ≤ m ∧ i = .int .i64 j ∧ wr' = w4.drewN q) (fun i _ => m - (intOf i).toNat)
            case atStart => exact ⟨0, 0, Nat.zero_le _, rfl, rfl⟩
            case round =>
              obtain ⟨j3, q, hj3, rfl, rfl⟩ := hrel
              by_cases hlt3 : j3 < m
              · have hmn' := HMN.out
                have hjf : j3 < fs.length := by rw [← HN.out]; omega
                have hjt : j3 < (fs.take m).length := by rw [List.length_take]; omega
                have c3 := HL3.out j3 hjt
                have c1 := HL14.out j3 hjf
                have c0 := HLA4.out j3 hjf
                rw [List.getElem_take] at c3
                generalize fs[j3] = f at *
                obtain ⟨kf, ef, bf⟩ := f
                rw [Nat.zero_add] at c3 c1
                simp only at c3 c1 c0
                obtain ⟨c30, c31, c32⟩ := c3
                obtain ⟨c10, c11, c12⟩ := c1
                obtain ⟨c00, c01, c02⟩ := c0
                have d30 : (w4.drewN q).cell? ⟨g3, j3 * 3, none⟩ = some (.int .i64 kf) := c30
                have d31 : (w4.drewN q).cell? ⟨g3, j3 * 3 + 1, none⟩ = some (.int .u64 (ef : Int)) := c31
                have d32 : (w4.drewN q).cell? ⟨g3, j3 * 3 + 2, none⟩ = some (.string bf) := c32
                have d10 : (w4.drewN q).cell? ⟨g1, j3 * 3, none⟩ = some (.int .i64 kf) := c10
                have d11 : (w4.drewN q).cell? ⟨g1, j3 * 3 + 1, none⟩ = some (.int .u64 (ef : Int)) := c11
                have d12 : (w4.drewN q).cell? ⟨g1, j3 * 3 + 2, none⟩ = some (.string bf) := c12
                have d00 : (w4.drewN q).cell? ⟨b, off + j3 * 3, none⟩ = some (.int .i64 kf) := c00
                have d01 : (w4.drewN q).cell? ⟨b, off + j3 * 3 + 1, none⟩ = some (.int .u64 (ef : Int)) := c01
                have d02 : (w4.drewN q).cell? ⟨b, off + j3 * 3 + 2, none⟩ = some (.string bf) := c02
                have i3m : (j3 : Int) < (m : Int) := by omega
                have i3n : (j3 : Int) < (n : Int) := by omega
                have i30 : (0 : Int) ≤ (j3 : Int) := by omega
                go_wp2_with fail
                go_quiet (fail)
                go_wp2
                go_roundw
                case rel => exact ⟨j3 + 1, q + nq, by omega, by go_num, by simp [World.drewN]⟩
                case measure => simp [intOf]; omega
              · have ej3 : j3 = m := by omega
                subst ej3
                go_wp2
                go_ret
                exact ⟨rfl, HB4.out.trans ((bdn w4 q).mono HB4.out.size)⟩
end Go.Proofs.Ytlochpnifjmefaa
