/- The law PipeTurns. -/
import Derived.Test.YtcoadbagjlcagaaJ04
set_option linter.unusedVariables false
set_option linter.unusedSimpArgs false
namespace Go.Proofs.Ytcoadbagjlcagaa
open Go.RowKit

set_option maxRecDepth 100000 in
set_option maxHeartbeats 8000000 in
theorem turns_any (l : List Ac) (at0 : Option Addr) (cap b off : Nat) (w : World) (hat : 0 < l.length → at0 = some ⟨b, off, none⟩ ∧ b < w.heap.size) (hc : AcsIn w b off l) :
    Calls Try.prog 3 #[.slice at0 l.length cap] w fun e w' => e = .returned (.bool true) ∧ Below w.heap.size w w' := by
  have HC : Hid (∀ wz, Below w.heap.size w wz → AcsIn wz b off l) := Lib.hid (fun wz hz k h => by
    have hb := (hat (by omega)).2
    obtain ⟨h0, h1, h2, h3, h4⟩ := hc k h
    exact ⟨(hz.cell (p := ⟨b, off + k * 4, none⟩) hb).trans h0, (hz.cell (p := ⟨b, off + k * 4 + 1, none⟩) hb).trans h1, (hz.cell (p := ⟨b, off + k * 4 + 2, none⟩) hb).trans h2, (hz.cell (p := ⟨b, off + k * 4 + 3, none⟩) hb).trans h3, h4⟩)
  have HAT : Hid (0 < l.length → at0 = some ⟨b, off, none⟩) := Lib.hid (fun h => (hat h).1)
  have K6 := Lib.hid awake_any
  clear hat hc
  by_cases h120 : l.length ≤ 120
  · have q120 : ¬ ((l.length : Int) > 120) := by omega
    go_enter Try.func3, Try.ntmps3
    go_wp2_with (first
      | (go_at_call 6; ((with_reducible refine (K6.out _).mono ?_); rintro e w1 ⟨rfl, hb⟩; have HB1 := Lib.hid hb; have HI1 : Hid (Inv w w1.heap.size (.slice none 0 0) (.slice none 0 0) [] (w1.alloc (.cells #[.slice none 0 0] 26))) := Lib.hid ⟨B1.new 26 w1 _, Sl.nil _, Fr.nil _, Sl.nil _, Fr.nil _, ⟨by simp, by simp⟩, hb.trans ((alloc_below w1 _).mono hb.size), hb.size⟩; clear hb)))
    obtain ⟨gp, hgp⟩ : ∃ gp, gp = w1.heap.size := ⟨_, rfl⟩
    rw [← hgp] at HI1 ⊢
    generalize w1.alloc (.cells #[.slice none 0 0] 26) = w2 at *
    clear hgp HB1
    clear w1
    go_loopw [4, 19] (fun u y wz => ∃ k : Nat, ∃ v L, k ≤ l.length ∧ y = .int .i64 k ∧ Hid (Inv w gp v u L wz)) (fun _ y _ => l.length - (intOf y).toNat)
    case atStart => exact ⟨0, _, _, by omega, rfl, HI1⟩
    case round =>
      obtain ⟨k, v, L, hk, rfl, HI⟩ := hrel
      by_cases hlt : k < l.length
      · obtain rfl := HAT.out (by omega)
        obtain ⟨a0, a1, a2, a3, hok⟩ := HC.out wr HI.out.b k hlt
        have q1 : (k : Int) < (l.length : Int) := by omega
        have HOK := Lib.hid hok
        clear hok
        generalize l[k] = q at *
        obtain ⟨d, t, s, i⟩ := q
        dsimp only at *
        obtain ⟨o, c, hv⟩ := HI.out.sv.form
        obtain ⟨ou, cu, hu⟩ := HI.out.su.form
        subst hv hu
        have HR2 := Lib.hid (Rd.start HI.out ⟨d, t, s, i⟩)
        have HP1 := Lib.hid (HI.out.p.later (alloc_below wr (.cells #[.int .u8 (d : Int), .int .u64 (t : Int), .string s, .int .i64 i] 30)))
        obtain ⟨pa, pb⟩ := HP1.out.cells
        have HOL := Lib.hid HI.out.ok
        have HL64 := Lib.hid (show L.length ≤ 1000000 by have := HI.out.ok.1; omega)
        dsimp only at HR2
        by_cases hd2 : d % 6 = 2
        · have h2 : ((d : Int) % 6 == 2) = true := by simp; omega
          clear hd2
          by_cases hi : 0 ≤ i ∧ i < (L.length : Int)
          · obtain ⟨m, rfl⟩ : ∃ m : Nat, i = (m : Int) := ⟨i.toNat, by omega⟩
            have hm : m < L.length := by omega
            have q2 : (m : Int) < (L.length : Int) := by omega
            have K7 := Lib.hid (fun W h => deliver_yes L m (.slice o L.length c) HL64.out HOL.out.2 W h hm)
            have K8 := Lib.hid (fun W h => rdrop_any L m (.slice ou L.length cu) HL64.out W h)
            rw [dropL_in hm] at K8
            have HOM := Lib.hid (HOL.out.drop m)
            rw [dropL_in hm] at HOM
            have K15 := Lib.hid (fun v u W h1 h2 => is_any (L.take m ++ L.drop (m + 1)) v u (by have := HOM.out.1; omega) HOM.out.2 W h1 h2)
            have K15' := Lib.hid (fun v u W h1 h2 => is_any L v u HL64.out HOL.out.2 W h1 h2)
            have HX : Hid (L[m]'hm = L[m]'hm) := Lib.hid rfl
            have HUC : Hid (∀ wz, Sl wz (.slice ou L.length cu) L → ∃ b f, ou = some ⟨b, f, none⟩ ∧ ItAt wz b (f + m * 2) L[m]) := Lib.hid (fun wz h => by
              obtain ⟨o', c', b', f', e, h1, h2⟩ := h.cells
              cases e
              exact ⟨b', f', h1 (by omega), h2 m hm⟩)
            have hne := run_ne_it L[m]
            generalize L[m] = x at *
            obtain ⟨xt, xs⟩ := x
            unfold three iv at K7
            generalize L.take m ++ L.drop (m + 1) = M at *
            dsimp only at *
            have HR3 := Lib.hid (HR2.out.later (alloc_below _ (.cells #[.int .u64 0, .string ⟨#[]⟩] 33)))
            have HX3 := Lib.hid (Bx.new 33 ((wr.alloc (.cells #[.int .u8 (d : Int), .int .u64 (t : Int), .string s, .int .i64 (m : Int)] 30)).alloc (.cells #[.slice o L.length c] 26)) (.int .u64 0) (.string ⟨#[]⟩))
            rw [show ((wr.alloc (.cells #[.int .u8 (d : Int), .int .u64 (t : Int), .string s, .int .i64 (m : Int)] 30)).alloc (.cells #[.slice o L.length c] 26)).heap.size = wr.heap.size + 1 + 1 by simp] at HX3
            obtain ⟨p0, p1⟩ := HR3.out.p.cells
            have HN := Lib.hid (show Nb (wr.heap.size + 1 + 1) (.slice o L.length c) ∧ Nb (wr.heap.size + 1 + 1) (.slice ou L.length cu) from ⟨by have := HR2.out.sv.nb; simpa using this, by have := HR2.out.su.nb; simpa using this⟩)
            go_wp2_with (first
              | (go_at_call 7; ((with_reducible refine (K7.out _ HR3.out.sm).mono ?_); rintro e w5 ⟨⟨o5, n5, c5, rfl, hs5, hf5⟩, hb5⟩; have HF5 := Lib.hid (show Fr (gp + 1) (.slice o5 n5 c5) from hf5.mono (lt_of_heap HR3.out.p)); have HN5 := Lib.hid (hf5.nb (lt_of_heap HX3.out)); have HR5 := Lib.hid (HR3.out.later hb5); have HX5 := Lib.hid (HX3.out.later hb5); obtain ⟨y0, y1⟩ := HR5.out.p.cells; have HR6 := Lib.hid (HR5.out.put hs5 HF5.out); have HX6 := Lib.hid (HX5.out.away ⟨gp, 0, none⟩ (by show wr.heap.size + 1 + 1 ≠ gp; have := HR3.out.lt; omega) (.slice o5 n5 c5)); obtain ⟨x0, x1, x2, x3⟩ := HX6.out.cells; clear hs5 hb5 hf5)))
            have HX7 := Lib.hid (HX6.out.put (.int .u64 (xt : Int)) (.string xs))
            have HR7 := Lib.hid ((HR6.out.xset (gx := wr.heap.size + 1 + 1) (by omega) HN.out.1 HN.out.2 HN5.out 0 (.int .u64 (xt : Int))).xset (by omega) HN.out.1 HN.out.2 HN5.out 1 (.string xs))
            clear x0 x1 x2 x3 y0 y1 p0 p1 HX5 HX6 HR5 HR6 HX3 HR3 HR2
            generalize ((w5.setCell ⟨gp, 0, none⟩ (.slice o5 n5 c5)).setCell ⟨wr.heap.size + 1 + 1, 0, none⟩ (.int .u64 (xt : Int))).setCell ⟨wr.heap.size + 1 + 1, 1, none⟩ (.string xs) = w7 at *
            obtain ⟨x0, x1, _, _⟩ := HX7.out.cells
            obtain ⟨_, _, _, ai⟩ := HR7.out.a.cells
            obtain ⟨bu, fu, rfl, u0, u1⟩ := HUC.out _ HR7.out.su
            dsimp only at ai u0 u1
            have HRq : Hid (∀ q, Rd w gp wr.heap.size (.slice o L.length c) (.slice (some ⟨bu, fu, none⟩) L.length cu) (.slice o5 n5 c5) L M ⟨d, t, s, m⟩ (w7.drewN q)) := Lib.hid (fun q => HR7.out.drewN q)
            go_quiet (fail)
            have HR8 := Lib.hid (HRq.out nq)
            generalize w7.drewN nq = w8 at *
            clear HRq x0 x1 ai u0 u1 HX7 HR7
            obtain ⟨_, _, _, ai⟩ := HR8.out.a.cells
            dsimp only at ai
            go_wp2_with (first
              | (go_at_call 8; ((with_reducible refine (K8.out _ HR8.out.su).mono ?_); rintro e w9 ⟨⟨o9, n9, c9, rfl, hs9, hf9⟩, hb9⟩; have HS9 := Lib.hid hs9; have HF9 := Lib.hid (show Fr (gp + 1) (.slice o9 n9 c9) from hf9.mono (lt_of_heap HR8.out.p)); have HR9 := Lib.hid (HR8.out.later hb9); obtain ⟨y0, _⟩ := HR9.out.p.cells; clear hs9 hb9 hf9))
              | (go_at_call 15; ((with_reducible refine (K15.out _ _ _ HR9.out.sm HS9.out).mono ?_); rintro e wa ⟨rfl, hba⟩; have HRa := Lib.hid (HR9.out.later hba); have HSa := Lib.hid (HS9.out.later hba); obtain ⟨z0, _⟩ := HRa.out.was.cells; clear hba))
              | (go_at_call 15; ((with_reducible refine (K15'.out _ _ _ HRa.out.sv HRa.out.su).mono ?_); rintro e wb ⟨rfl, hbb⟩; have HRb := Lib.hid (HRa.out.later hbb); have HSb := Lib.hid (HSa.out.later hbb); clear hbb)))
            go_roundw
            case rel => exact ⟨k + 1, _, _, by omega, by go_num, Lib.hid (HRb.out.inv HSb.out HF9.out HOM.out)⟩
            case measure => simp [intOf]; omega
          · by_cases hi0 : 0 ≤ i
            · have hi1 : ¬ (i < (L.length : Int)) := by omega
              have K7 := Lib.hid (fun W h => deliver_no L i (.slice o L.length c) 0 W h (fun _ _ _ _ _ => Nat.zero_le _) hi)
              have K8 := Lib.hid (fun W h => rdrop_any L i (.slice ou L.length cu) HL64.out W h)
              rw [dropL_out hi] at K8
              have HOM := HOL
              have K15 := Lib.hid (fun v u W h1 h2 => is_any (L) v u (by have := HOM.out.1; omega) HOM.out.2 W h1 h2)
              have K15' := Lib.hid (fun v u W h1 h2 => is_any L v u HL64.out HOL.out.2 W h1 h2)
              have hne := run_ne_it33 ⟨0, ⟨#[]⟩⟩
              try dsimp only at *
              have HR3 := Lib.hid (HR2.out.later (alloc_below _ (.cells #[.int .u64 0, .string ⟨#[]⟩] 33)))
              have HX3 := Lib.hid (Bx.new 33 ((wr.alloc (.cells #[.int .u8 (d : Int), .int .u64 (t : Int), .string s, .int .i64 i] 30)).alloc (.cells #[.slice o L.length c] 26)) (.int .u64 0) (.string ⟨#[]⟩))
              rw [show ((wr.alloc (.cells #[.int .u8 (d : Int), .int .u64 (t : Int), .string s, .int .i64 i] 30)).alloc (.cells #[.slice o L.length c] 26)).heap.size = wr.heap.size + 1 + 1 by simp] at HX3
              obtain ⟨p0, p1⟩ := HR3.out.p.cells
              have HN := Lib.hid (show Nb (wr.heap.size + 1 + 1) (.slice o L.length c) ∧ Nb (wr.heap.size + 1 + 1) (.slice ou L.length cu) from ⟨by have := HR2.out.sv.nb; simpa using this, by have := HR2.out.su.nb; simpa using this⟩)
              go_wp2_with (first
                | (go_at_call 7; ((with_reducible refine (K7.out _ HR3.out.sm).mono ?_); rintro e w5 ⟨rfl, hb5⟩; have HR5 := Lib.hid (HR3.out.later hb5); have HX5 := Lib.hid (HX3.out.later hb5); obtain ⟨y0, y1⟩ := HR5.out.p.cells; have HR6 := Lib.hid (HR5.out.put HR5.out.sm HR5.out.fm); have HX6 := Lib.hid (HX5.out.away ⟨gp, 0, none⟩ (by show wr.heap.size + 1 + 1 ≠ gp; have := HR3.out.lt; omega) (.slice o L.length c)); obtain ⟨x0, x1, x2, x3⟩ := HX6.out.cells; clear hb5)))
              have HX7 := Lib.hid (HX6.out.put (.int .u64 0) (.string ⟨#[]⟩))
              have HR7 := Lib.hid ((HR6.out.xset (gx := wr.heap.size + 1 + 1) (by omega) HN.out.1 HN.out.2 HN.out.1 0 (.int .u64 0)).xset (by omega) HN.out.1 HN.out.2 HN.out.1 1 (.string ⟨#[]⟩))
              clear x0 x1 x2 x3 y0 y1 p0 p1 HX5 HX6 HR5 HR6 HX3 HR3 HR2
              generalize ((w5.setCell ⟨gp, 0, none⟩ (.slice o L.length c)).setCell ⟨wr.heap.size + 1 + 1, 0, none⟩ (.int .u64 0)).setCell ⟨wr.heap.size + 1 + 1, 1, none⟩ (.string ⟨#[]⟩) = w7 at *
              obtain ⟨x0, x1, _, _⟩ := HX7.out.cells
              have HRq : Hid (∀ q, Rd w gp wr.heap.size (.slice o L.length c) (.slice ou L.length cu) (.slice o L.length c) L L ⟨d, t, s, i⟩ (w7.drewN q)) := Lib.hid (fun q => HR7.out.drewN q)
              go_quiet (fail)
              have HR8 := Lib.hid (HRq.out nq)
              generalize w7.drewN nq = w8 at *
              clear HRq x0 x1 HX7 HR7
              obtain ⟨_, _, _, ai⟩ := HR8.out.a.cells
              dsimp only at ai
              go_wp2_with (first
                | (go_at_call 8; ((with_reducible refine (K8.out _ HR8.out.su).mono ?_); rintro e w9 ⟨⟨o9, n9, c9, rfl, hs9, hf9⟩, hb9⟩; have HS9 := Lib.hid hs9; have HF9 := Lib.hid (show Fr (gp + 1) (.slice o9 n9 c9) from hf9.mono (lt_of_heap HR8.out.p)); have HR9 := Lib.hid (HR8.out.later hb9); obtain ⟨y0, _⟩ := HR9.out.p.cells; clear hs9 hb9 hf9))
                | (go_at_call 15; ((with_reducible refine (K15.out _ _ _ HR9.out.sm HS9.out).mono ?_); rintro e wa ⟨rfl, hba⟩; have HRa := Lib.hid (HR9.out.later hba); have HSa := Lib.hid (HS9.out.later hba); obtain ⟨z0, _⟩ := HRa.out.was.cells; clear hba))
                | (go_at_call 15; ((with_reducible refine (K15'.out _ _ _ HRa.out.sv HRa.out.su).mono ?_); rintro e wb ⟨rfl, hbb⟩; have HRb := Lib.hid (HRa.out.later hbb); have HSb := Lib.hid (HSa.out.later hbb); clear hbb)))
              go_roundw
              case rel => exact ⟨k + 1, _, _, by omega, by go_num, Lib.hid (HRb.out.inv HSb.out HF9.out HOM.out)⟩
              case measure => simp [intOf]; omega
            · have hi1 : i < 0 := by omega
              have K7 := Lib.hid (fun W h => deliver_no L i (.slice o L.length c) 0 W h (fun _ _ _ _ _ => Nat.zero_le _) hi)
              have K8 := Lib.hid (fun W h => rdrop_any L i (.slice ou L.length cu) HL64.out W h)
              rw [dropL_out hi] at K8
              have HOM := HOL
              have K15 := Lib.hid (fun v u W h1 h2 => is_any (L) v u (by have := HOM.out.1; omega) HOM.out.2 W h1 h2)
              have K15' := Lib.hid (fun v u W h1 h2 => is_any L v u HL64.out HOL.out.2 W h1 h2)
              have hne := run_ne_it33 ⟨0, ⟨#[]⟩⟩
              try dsimp only at *
              have HR3 := Lib.hid (HR2.out.later (alloc_below _ (.cells #[.int .u64 0, .string ⟨#[]⟩] 33)))
              have HX3 := Lib.hid (Bx.new 33 ((wr.alloc (.cells #[.int .u8 (d : Int), .int .u64 (t : Int), .string s, .int .i64 i] 30)).alloc (.cells #[.slice o L.length c] 26)) (.int .u64 0) (.string ⟨#[]⟩))
              rw [show ((wr.alloc (.cells #[.int .u8 (d : Int), .int .u64 (t : Int), .string s, .int .i64 i] 30)).alloc (.cells #[.slice o L.length c] 26)).heap.size = wr.heap.size + 1 + 1 by simp] at HX3
              obtain ⟨p0, p1⟩ := HR3.out.p.cells
              have HN := Lib.hid (show Nb (wr.heap.size + 1 + 1) (.slice o L.length c) ∧ Nb (wr.heap.size + 1 + 1) (.slice ou L.length cu) from ⟨by have := HR2.out.sv.nb; simpa using this, by have := HR2.out.su.nb; simpa using this⟩)
              go_wp2_with (first
                | (go_at_call 7; ((with_reducible refine (K7.out _ HR3.out.sm).mono ?_); rintro e w5 ⟨rfl, hb5⟩; have HR5 := Lib.hid (HR3.out.later hb5); have HX5 := Lib.hid (HX3.out.later hb5); obtain ⟨y0, y1⟩ := HR5.out.p.cells; have HR6 := Lib.hid (HR5.out.put HR5.out.sm HR5.out.fm); have HX6 := Lib.hid (HX5.out.away ⟨gp, 0, none⟩ (by show wr.heap.size + 1 + 1 ≠ gp; have := HR3.out.lt; omega) (.slice o L.length c)); obtain ⟨x0, x1, x2, x3⟩ := HX6.out.cells; clear hb5)))
              have HX7 := Lib.hid (HX6.out.put (.int .u64 0) (.string ⟨#[]⟩))
              have HR7 := Lib.hid ((HR6.out.xset (gx := wr.heap.size + 1 + 1) (by omega) HN.out.1 HN.out.2 HN.out.1 0 (.int .u64 0)).xset (by omega) HN.out.1 HN.out.2 HN.out.1 1 (.string ⟨#[]⟩))
              clear x0 x1 x2 x3 y0 y1 p0 p1 HX5 HX6 HR5 HR6 HX3 HR3 HR2
              generalize ((w5.setCell ⟨gp, 0, none⟩ (.slice o L.length c)).setCell ⟨wr.heap.size + 1 + 1, 0, none⟩ (.int .u64 0)).setCell ⟨wr.heap.size + 1 + 1, 1, none⟩ (.string ⟨#[]⟩) = w7 at *
              obtain ⟨x0, x1, _, _⟩ := HX7.out.cells
              have HRq : Hid (∀ q, Rd w gp wr.heap.size (.slice o L.length c) (.slice ou L.length cu) (.slice o L.length c) L L ⟨d, t, s, i⟩ (w7.drewN q)) := Lib.hid (fun q => HR7.out.drewN q)
              go_quiet (fail)
              have HR8 := Lib.hid (HRq.out nq)
              generalize w7.drewN nq = w8 at *
              clear HRq x0 x1 HX7 HR7
              obtain ⟨_, _, _, ai⟩ := HR8.out.a.cells
              dsimp only at ai
              go_wp2_with (first
                | (go_at_call 8; ((with_reducible refine (K8.out _ HR8.out.su).mono ?_); rintro e w9 ⟨⟨o9, n9, c9, rfl, hs9, hf9⟩, hb9⟩; have HS9 := Lib.hid hs9; have HF9 := Lib.hid (show Fr (gp + 1) (.slice o9 n9 c9) from hf9.mono (lt_of_heap HR8.out.p)); have HR9 := Lib.hid (HR8.out.later hb9); obtain ⟨y0, _⟩ := HR9.out.p.cells; clear hs9 hb9 hf9))
                | (go_at_call 15; ((with_reducible refine (K15.out _ _ _ HR9.out.sm HS9.out).mono ?_); rintro e wa ⟨rfl, hba⟩; have HRa := Lib.hid (HR9.out.later hba); have HSa := Lib.hid (HS9.out.later hba); obtain ⟨z0, _⟩ := HRa.out.was.cells; clear hba))
                | (go_at_call 15; ((with_reducible refine (K15'.out _ _ _ HRa.out.sv HRa.out.su).mono ?_); rintro e wb ⟨rfl, hbb⟩; have HRb := Lib.hid (HRa.out.later hbb); have HSb := Lib.hid (HSa.out.later hbb); clear hbb)))
              go_roundw
              case rel => exact ⟨k + 1, _, _, by omega, by go_num, Lib.hid (HRb.out.inv HSb.out HF9.out HOM.out)⟩
              case measure => simp [intOf]; omega
        · have h2 : ((d : Int) % 6 == 2) = false := by rw [beq_eq_false_iff_ne]; omega
          by_cases hd3 : d % 6 = 3
          · have h3 : ((d : Int) % 6 == 3) = true := by simp; omega
            clear hd3
            by_cases hi : 0 ≤ i ∧ i < (L.length : Int)
            · obtain ⟨m, rfl⟩ : ∃ m : Nat, i = (m : Int) := ⟨i.toNat, by omega⟩
              have hm : m < L.length := by omega
              have q2 : (m : Int) < (L.length : Int) := by omega
              have K9 := Lib.hid (fun W h => double_yes L m (.slice o L.length c) HL64.out W h hm)
              have HOM := Lib.hid (HOL.out.send L[m] (HOL.out.2 _ (List.getElem_mem hm)))
              have K10 := Lib.hid (fun W h => rsend_any L L[m] (.slice ou L.length cu) HOL.out.1 W h)
              have HUC : Hid (∀ wz, Sl wz (.slice ou L.length cu) L → ∃ b f, ou = some ⟨b, f, none⟩ ∧ ItAt wz b (f + m * 2) L[m]) := Lib.hid (fun wz h => by
                obtain ⟨o', c', b', f', e, h1, h2⟩ := h.cells
                cases e
                exact ⟨b', f', h1 (by omega), h2 m hm⟩)
              generalize L[m] = x at *
              have K15 := Lib.hid (fun v u W h1 h2 => is_any (sendL L x) v u (by have := HOM.out.1; omega) HOM.out.2 W h1 h2)
              have K15' := Lib.hid (fun v u W h1 h2 => is_any L v u HL64.out HOL.out.2 W h1 h2)
              generalize sendL L x = M at *
              obtain ⟨xt, xs⟩ := x
              unfold two at K9
              unfold iv at K10
              try dsimp only at *
              obtain ⟨p0, p1⟩ := HR2.out.p.cells
              go_wp2_with (first
                | (go_at_call 9; ((with_reducible refine (K9.out _ HR2.out.sm).mono ?_); rintro e w5 ⟨⟨o5, n5, c5, rfl, hs5, hf5⟩, hb5⟩; have HF5 := Lib.hid (show Fr (gp + 1) (.slice o5 n5 c5) from hf5.mono (lt_of_heap HR2.out.p)); have HR5 := Lib.hid (HR2.out.later hb5); obtain ⟨y0, y1⟩ := HR5.out.p.cells; have HR8 := Lib.hid (HR5.out.put hs5 HF5.out); obtain ⟨bu, fu, rfl, u0, u1⟩ := HUC.out _ HR8.out.su; obtain ⟨_, _, _, ai⟩ := HR8.out.a.cells; dsimp only at ai u0 u1; clear hs5 hb5 hf5))
                | (go_at_call 10; ((with_reducible refine (K10.out _ HR8.out.su).mono ?_); rintro e w9 ⟨⟨o9, n9, c9, rfl, hs9, hf9⟩, hb9⟩; have HS9 := Lib.hid hs9; have HF9 := Lib.hid (show Fr (gp + 1) (.slice o9 n9 c9) from hf9.mono (lt_of_heap HR8.out.p)); have HR9 := Lib.hid (HR8.out.later hb9); obtain ⟨y0, _⟩ := HR9.out.p.cells; clear hs9 hb9 hf9))
                | (go_at_call 15; ((with_reducible refine (K15.out _ _ _ HR9.out.sm HS9.out).mono ?_); rintro e wa ⟨rfl, hba⟩; have HRa := Lib.hid (HR9.out.later hba); have HSa := Lib.hid (HS9.out.later hba); obtain ⟨z0, _⟩ := HRa.out.was.cells; clear hba))
                | (go_at_call 15; ((with_reducible refine (K15'.out _ _ _ HRa.out.sv HRa.out.su).mono ?_); rintro e wb ⟨rfl, hbb⟩; have HRb := Lib.hid (HRa.out.later hbb); have HSb := Lib.hid (HSa.out.later hbb); clear hbb)))
              go_roundw
              case rel => exact ⟨k + 1, _, _, by omega, by go_num, Lib.hid (HRb.out.inv HSb.out HF9.out HOM.out)⟩
              case measure => simp [intOf]; omega
            · by_cases hi0 : 0 ≤ i
              · have hi1 : ¬ (i < (L.length : Int)) := by omega
                have K9 := Lib.hid (fun W h => double_no L i (.slice o L.length c) 0 W h (fun _ _ _ _ _ => Nat.zero_le _) hi)
                have HOM := HOL
                have K15 := Lib.hid (fun v u W h1 h2 => is_any (L) v u (by have := HOM.out.1; omega) HOM.out.2 W h1 h2)
                have K15' := Lib.hid (fun v u W h1 h2 => is_any L v u HL64.out HOL.out.2 W h1 h2)
                try dsimp only at *
                obtain ⟨p0, p1⟩ := HR2.out.p.cells
                go_wp2_with (first
                  | (go_at_call 9; ((with_reducible refine (K9.out _ HR2.out.sm).mono ?_); rintro e w5 ⟨rfl, hb5⟩; have HR5 := Lib.hid (HR2.out.later hb5); obtain ⟨y0, y1⟩ := HR5.out.p.cells; have HR9 := Lib.hid (HR5.out.put HR5.out.sm HR5.out.fm); have HS9 := Lib.hid HR9.out.su; have HF9 := Lib.hid HR9.out.fu; obtain ⟨u0, _⟩ := HR9.out.p.cells; clear hb5))
                  | (go_at_call 15; ((with_reducible refine (K15.out _ _ _ HR9.out.sm HS9.out).mono ?_); rintro e wa ⟨rfl, hba⟩; have HRa := Lib.hid (HR9.out.later hba); have HSa := Lib.hid (HS9.out.later hba); obtain ⟨z0, _⟩ := HRa.out.was.cells; clear hba))
                  | (go_at_call 15; ((with_reducible refine (K15'.out _ _ _ HRa.out.sv HRa.out.su).mono ?_); rintro e wb ⟨rfl, hbb⟩; have HRb := Lib.hid (HRa.out.later hbb); have HSb := Lib.hid (HSa.out.later hbb); clear hbb)))
                go_roundw
                case rel => exact ⟨k + 1, _, _, by omega, by go_num, Lib.hid (HRb.out.inv HSb.out HF9.out HOM.out)⟩
                case measure => simp [intOf]; omega
              · have hi1 : i < 0 := by omega
                have K9 := Lib.hid (fun W h => double_no L i (.slice o L.length c) 0 W h (fun _ _ _ _ _ => Nat.zero_le _) hi)
                have HOM := HOL
                have K15 := Lib.hid (fun v u W h1 h2 => is_any (L) v u (by have := HOM.out.1; omega) HOM.out.2 W h1 h2)
                have K15' := Lib.hid (fun v u W h1 h2 => is_any L v u HL64.out HOL.out.2 W h1 h2)
                try dsimp only at *
                obtain ⟨p0, p1⟩ := HR2.out.p.cells
                go_wp2_with (first
                  | (go_at_call 9; ((with_reducible refine (K9.out _ HR2.out.sm).mono ?_); rintro e w5 ⟨rfl, hb5⟩; have HR5 := Lib.hid (HR2.out.later hb5); obtain ⟨y0, y1⟩ := HR5.out.p.cells; have HR9 := Lib.hid (HR5.out.put HR5.out.sm HR5.out.fm); have HS9 := Lib.hid HR9.out.su; have HF9 := Lib.hid HR9.out.fu; obtain ⟨u0, _⟩ := HR9.out.p.cells; clear hb5))
                  | (go_at_call 15; ((with_reducible refine (K15.out _ _ _ HR9.out.sm HS9.out).mono ?_); rintro e wa ⟨rfl, hba⟩; have HRa := Lib.hid (HR9.out.later hba); have HSa := Lib.hid (HS9.out.later hba); obtain ⟨z0, _⟩ := HRa.out.was.cells; clear hba))
                  | (go_at_call 15; ((with_reducible refine (K15'.out _ _ _ HRa.out.sv HRa.out.su).mono ?_); rintro e wb ⟨rfl, hbb⟩; have HRb := Lib.hid (HRa.out.later hbb); have HSb := Lib.hid (HSa.out.later hbb); clear hbb)))
                go_roundw
                case rel => exact ⟨k + 1, _, _, by omega, by go_num, Lib.hid (HRb.out.inv HSb.out HF9.out HOM.out)⟩
                case measure => simp [intOf]; omega
          · have h3 : ((d : Int) % 6 == 3) = false := by rw [beq_eq_false_iff_ne]; omega
            by_cases hd4 : d % 6 = 4
            · have h4 : ((d : Int) % 6 == 4) = true := by simp; omega
              clear hd4
              by_cases hi : 0 ≤ i ∧ i < (L.length : Int)
              · obtain ⟨m, rfl⟩ : ∃ m : Nat, i = (m : Int) := ⟨i.toNat, by omega⟩
                have hm : m < L.length := by omega
                have q2 : (m : Int) < (L.length : Int) := by omega
                have K11 := Lib.hid (fun W h => lose_yes L m (.slice o L.length c) HL64.out W h hm)
                have K8 := Lib.hid (fun W h => rdrop_any L m (.slice ou L.length cu) HL64.out W h)
                rw [dropL_in hm] at K8
                have HOM := Lib.hid (HOL.out.drop m)
                rw [dropL_in hm] at HOM
                have K15 := Lib.hid (fun v u W h1 h2 => is_any (L.take m ++ L.drop (m + 1)) v u (by have := HOM.out.1; omega) HOM.out.2 W h1 h2)
                have K15' := Lib.hid (fun v u W h1 h2 => is_any L v u HL64.out HOL.out.2 W h1 h2)
                generalize L.take m ++ L.drop (m + 1) = M at *
                unfold two at K11
                try dsimp only at *
                obtain ⟨p0, p1⟩ := HR2.out.p.cells
                go_wp2_with (first
                  | (go_at_call 11; ((with_reducible refine (K11.out _ HR2.out.sm).mono ?_); rintro e w5 ⟨⟨o5, n5, c5, rfl, hs5, hf5⟩, hb5⟩; have HF5 := Lib.hid (show Fr (gp + 1) (.slice o5 n5 c5) from hf5.mono (lt_of_heap HR2.out.p)); have HR5 := Lib.hid (HR2.out.later hb5); obtain ⟨y0, y1⟩ := HR5.out.p.cells; have HR8 := Lib.hid (HR5.out.put hs5 HF5.out); obtain ⟨_, _, _, ai⟩ := HR8.out.a.cells; dsimp only at ai; clear hs5 hb5 hf5))
                  | (go_at_call 8; ((with_reducible refine (K8.out _ HR8.out.su).mono ?_); rintro e w9 ⟨⟨o9, n9, c9, rfl, hs9, hf9⟩, hb9⟩; have HS9 := Lib.hid hs9; have HF9 := Lib.hid (show Fr (gp + 1) (.slice o9 n9 c9) from hf9.mono (lt_of_heap HR8.out.p)); have HR9 := Lib.hid (HR8.out.later hb9); obtain ⟨y0, _⟩ := HR9.out.p.cells; clear hs9 hb9 hf9))
                  | (go_at_call 15; ((with_reducible refine (K15.out _ _ _ HR9.out.sm HS9.out).mono ?_); rintro e wa ⟨rfl, hba⟩; have HRa := Lib.hid (HR9.out.later hba); have HSa := Lib.hid (HS9.out.later hba); obtain ⟨z0, _⟩ := HRa.out.was.cells; clear hba))
                  | (go_at_call 15; ((with_reducible refine (K15'.out _ _ _ HRa.out.sv HRa.out.su).mono ?_); rintro e wb ⟨rfl, hbb⟩; have HRb := Lib.hid (HRa.out.later hbb); have HSb := Lib.hid (HSa.out.later hbb); clear hbb)))
                go_roundw
                case rel => exact ⟨k + 1, _, _, by omega, by go_num, Lib.hid (HRb.out.inv HSb.out HF9.out HOM.out)⟩
                case measure => simp [intOf]; omega
              · by_cases hi0 : 0 ≤ i
                · have hi1 : ¬ (i < (L.length : Int)) := by omega
                  have K11 := Lib.hid (fun W h => lose_no L i (.slice o L.length c) 0 W h (fun _ _ _ _ _ => Nat.zero_le _) hi)
                  have K8 := Lib.hid (fun W h => rdrop_any L i (.slice ou L.length cu) HL64.out W h)
                  rw [dropL_out hi] at K8
                  have HOM := HOL
                  have K15 := Lib.hid (fun v u W h1 h2 => is_any (L) v u (by have := HOM.out.1; omega) HOM.out.2 W h1 h2)
                  have K15' := Lib.hid (fun v u W h1 h2 => is_any L v u HL64.out HOL.out.2 W h1 h2)
                  try dsimp only at *
                  obtain ⟨p0, p1⟩ := HR2.out.p.cells
                  go_wp2_with (first
                    | (go_at_call 11; ((with_reducible refine (K11.out _ HR2.out.sm).mono ?_); rintro e w5 ⟨rfl, hb5⟩; have HR5 := Lib.hid (HR2.out.later hb5); obtain ⟨y0, y1⟩ := HR5.out.p.cells; have HR8 := Lib.hid (HR5.out.put HR5.out.sm HR5.out.fm); obtain ⟨_, _, _, ai⟩ := HR8.out.a.cells; dsimp only at ai; clear hb5))
                    | (go_at_call 8; ((with_reducible refine (K8.out _ HR8.out.su).mono ?_); rintro e w9 ⟨⟨o9, n9, c9, rfl, hs9, hf9⟩, hb9⟩; have HS9 := Lib.hid hs9; have HF9 := Lib.hid (show Fr (gp + 1) (.slice o9 n9 c9) from hf9.mono (lt_of_heap HR8.out.p)); have HR9 := Lib.hid (HR8.out.later hb9); obtain ⟨y0, _⟩ := HR9.out.p.cells; clear hs9 hb9 hf9))
                    | (go_at_call 15; ((with_reducible refine (K15.out _ _ _ HR9.out.sm HS9.out).mono ?_); rintro e wa ⟨rfl, hba⟩; have HRa := Lib.hid (HR9.out.later hba); have HSa := Lib.hid (HS9.out.later hba); obtain ⟨z0, _⟩ := HRa.out.was.cells; clear hba))
                    | (go_at_call 15; ((with_reducible refine (K15'.out _ _ _ HRa.out.sv HRa.out.su).mono ?_); rintro e wb ⟨rfl, hbb⟩; have HRb := Lib.hid (HRa.out.later hbb); have HSb := Lib.hid (HSa.out.later hbb); clear hbb)))
                  go_roundw
                  case rel => exact ⟨k + 1, _, _, by omega, by go_num, Lib.hid (HRb.out.inv HSb.out HF9.out HOM.out)⟩
                  case measure => simp [intOf]; omega
                · have hi1 : i < 0 := by omega
                  have K11 := Lib.hid (fun W h => lose_no L i (.slice o L.length c) 0 W h (fun _ _ _ _ _ => Nat.zero_le _) hi)
                  have K8 := Lib.hid (fun W h => rdrop_any L i (.slice ou L.length cu) HL64.out W h)
                  rw [dropL_out hi] at K8
                  have HOM := HOL
                  have K15 := Lib.hid (fun v u W h1 h2 => is_any (L) v u (by have := HOM.out.1; omega) HOM.out.2 W h1 h2)
                  have K15' := Lib.hid (fun v u W h1 h2 => is_any L v u HL64.out HOL.out.2 W h1 h2)
                  try dsimp only at *
                  obtain ⟨p0, p1⟩ := HR2.out.p.cells
                  go_wp2_with (first
                    | (go_at_call 11; ((with_reducible refine (K11.out _ HR2.out.sm).mono ?_); rintro e w5 ⟨rfl, hb5⟩; have HR5 := Lib.hid (HR2.out.later hb5); obtain ⟨y0, y1⟩ := HR5.out.p.cells; have HR8 := Lib.hid (HR5.out.put HR5.out.sm HR5.out.fm); obtain ⟨_, _, _, ai⟩ := HR8.out.a.cells; dsimp only at ai; clear hb5))
                    | (go_at_call 8; ((with_reducible refine (K8.out _ HR8.out.su).mono ?_); rintro e w9 ⟨⟨o9, n9, c9, rfl, hs9, hf9⟩, hb9⟩; have HS9 := Lib.hid hs9; have HF9 := Lib.hid (show Fr (gp + 1) (.slice o9 n9 c9) from hf9.mono (lt_of_heap HR8.out.p)); have HR9 := Lib.hid (HR8.out.later hb9); obtain ⟨y0, _⟩ := HR9.out.p.cells; clear hs9 hb9 hf9))
                    | (go_at_call 15; ((with_reducible refine (K15.out _ _ _ HR9.out.sm HS9.out).mono ?_); rintro e wa ⟨rfl, hba⟩; have HRa := Lib.hid (HR9.out.later hba); have HSa := Lib.hid (HS9.out.later hba); obtain ⟨z0, _⟩ := HRa.out.was.cells; clear hba))
                    | (go_at_call 15; ((with_reducible refine (K15'.out _ _ _ HRa.out.sv HRa.out.su).mono ?_); rintro e wb ⟨rfl, hbb⟩; have HRb := Lib.hid (HRa.out.later hbb); have HSb := Lib.hid (HSa.out.later hbb); clear hbb)))
                  go_roundw
                  case rel => exact ⟨k + 1, _, _, by omega, by go_num, Lib.hid (HRb.out.inv HSb.out HF9.out HOM.out)⟩
                  case measure => simp [intOf]; omega
            · have h4 : ((d : Int) % 6 == 4) = false := by rw [beq_eq_false_iff_ne]; omega
              by_cases hd5 : d % 6 = 5
              · have h5 : ((d : Int) % 6 == 5) = true := by simp; omega
                clear hd5
                by_cases hi0 : 0 ≤ i
                · by_cases hi1 : i < (L.length : Int)
                  · have K12 := Lib.hid (fun W h => clear_any L t (.slice o L.length c) HL64.out W h)
                    have K13 := Lib.hid (fun W h => rclear_any L t (.slice ou L.length cu) HL64.out W h)
                    have HOM := Lib.hid (HOL.out.clear t)
                    have K15 := Lib.hid (fun v u W h1 h2 => is_any (L.filter (keep t)) v u (by have := HOM.out.1; omega) HOM.out.2 W h1 h2)
                    have K15' := Lib.hid (fun v u W h1 h2 => is_any L v u HL64.out HOL.out.2 W h1 h2)
                    generalize L.filter (keep t) = M at *
                    try dsimp only at *
                    obtain ⟨w2, hw2⟩ : ∃ w2, w2 = ((wr.alloc (.cells #[.int .u8 (d : Int), .int .u64 (t : Int), .string s, .int .i64 i] 30)).alloc (.cells #[.slice o L.length c] 26)) := ⟨_, rfl⟩
                    rw [← hw2] at HR2
                    go_wp2_with (fail)
                    rw [← hw2]
                    clear hw2 pa pb HP1
                    have HR3 := Lib.hid (show Rd w gp wr.heap.size (.slice o L.length c) (.slice ou L.length cu) (.slice o L.length c) L L ⟨d, t, s, i⟩ w2.drew from HR2.out.drewN 1)
                    have mkS : Hid (∀ v' M' wz, Rd w gp wr.heap.size (.slice o L.length c) (.slice ou L.length cu) v' L M' ⟨d, t, s, i⟩ wz → wz.cell? ⟨wr.heap.size, 1, none⟩ = some (.int .u64 (t : Int)) ∧ wz.cell? ⟨wr.heap.size, 2, none⟩ = some (.string s) ∧ Hid True) := Lib.hid (fun v' M' wz h => ⟨h.a.cells.2.1, h.a.cells.2.2.1, Lib.hid True.intro⟩)
                    refine wp_region_held_drew (S := fun wz => wz.cell? ⟨wr.heap.size, 1, none⟩ = some (.int .u64 (t : Int)) ∧ wz.cell? ⟨wr.heap.size, 2, none⟩ = some (.string s) ∧ Hid True) (by kernel_rfl) (mkS.out _ _ _ HR3.out) (fun hHeld => ?_)
                    clear HR2
                    generalize w2.drew = wc0 at *
                    obtain ⟨p0, p1⟩ := HR3.out.p.cells
                    refine wpAnyH_take (i := 1) (oi := ⟨some 117, _, _, _, _, _⟩) (v := ?_) rfl (by kernel_rfl) (by kernel_rfl) (by kernel_rfl) (fun _ _ _ h => h) (Or.inl ⟨by rfl, by (intro w hSw; (try dsimp only at hSw); go_simp; try with_reducible rfl)⟩) hHeld ?_
                    try simp only [Act.put, List.setIfInBounds_toArray, List.set_cons_zero, List.set_cons_succ]
                    refine wpAnyH_take (i := 2) (oi := ⟨some 118, _, _, _, _, _⟩) (v := ?_) rfl (by kernel_rfl) (by kernel_rfl) (by kernel_rfl) (fun _ _ _ h => h) (Or.inl ⟨by rfl, by (intro w hSw; (try dsimp only at hSw); go_simp; try with_reducible rfl)⟩) hHeld ?_
                    try simp only [Act.put, List.setIfInBounds_toArray, List.set_cons_zero, List.set_cons_succ]
                    refine wpAnyH_take (i := 4) (oi := ⟨some 120, _, _, _, _, _⟩) (v := ?_) rfl (by kernel_rfl) (by kernel_rfl) (by kernel_rfl) (fun _ _ _ h => h) (Or.inl ⟨by rfl, by (intro w hSw; (try dsimp only at hSw); go_simp; try with_reducible rfl)⟩) hHeld ?_
                    try simp only [Act.put, List.setIfInBounds_toArray, List.set_cons_zero, List.set_cons_succ]
                    refine wpAnyH_take (i := 5) (oi := ⟨some 121, _, _, _, _, _⟩) (v := ?_) rfl (by kernel_rfl) (by kernel_rfl) (by kernel_rfl) (fun _ _ _ h => h) (Or.inl ⟨by rfl, by (intro w hSw; (try dsimp only at hSw); go_simp; try with_reducible rfl)⟩) hHeld ?_
                    try simp only [Act.put, List.setIfInBounds_toArray, List.set_cons_zero, List.set_cons_succ]
                    refine wpAnyH_take (i := 6) (oi := ⟨some 122, _, _, _, _, _⟩) (v := ?_) rfl (by kernel_rfl) (by kernel_rfl) (by kernel_rfl) (fun _ _ _ h => h) (Or.inl ⟨by rfl, by (intro w hSw; (try dsimp only at hSw); go_simp; try with_reducible rfl)⟩) hHeld ?_
                    try simp only [Act.put, List.setIfInBounds_toArray, List.set_cons_zero, List.set_cons_succ]
                    refine wpAnyH_ready (rs := [0]) (by kernel_rfl) (by simp) ?_
                    refine AllReadyH.cons (o := ⟨some 116, _, _, _, _, _⟩) rfl (fun K hK => ?_) ?_
                    · go_simp
                      refine hK.out _ _ (mkS.out _ _ _ HR3.out) (fun hHeld2 => ?_)
                      clear hK K hHeld
                      have hHeld := hHeld2
                      clear hHeld2
                      clear p0 p1
                      try simp only [Act.put, List.setIfInBounds_toArray, List.set_cons_zero, List.set_cons_succ]
                      refine wpAnyH_ready (rs := [3]) (by kernel_rfl) (by simp) ?_
                      refine AllReadyH.cons (o := ⟨some 119, _, _, _, _, _⟩) rfl (fun K hK => ?_) ?_
                      · go_simp
                        refine (K12.out _ HR3.out.sm).mono ?_
                        rintro ze wc1 ⟨⟨o5, n5, c5, rfl, hs5, hf5⟩, hb5⟩
                        try go_simp
                        have HS4 := Lib.hid hs5
                        have HF4 := Lib.hid (show Fr (gp + 1) (.slice o5 n5 c5) from hf5.mono (lt_of_heap HR3.out.p))
                        have HR4 := Lib.hid (HR3.out.later hb5)
                        clear hs5 hf5 hb5
                        refine hK.out _ _ (mkS.out _ _ _ HR4.out) (fun hHeld2 => ?_)
                        clear hK K hHeld
                        have hHeld := hHeld2
                        clear hHeld2
                        try simp only [Act.put, List.setIfInBounds_toArray, List.set_cons_zero, List.set_cons_succ]
                        refine wpAnyH_ready (rs := [7]) (by kernel_rfl) (by simp) ?_
                        refine AllReadyH.cons (o := ⟨some 123, _, _, _, _, _⟩) rfl (fun K hK => ?_) ?_
                        · go_simp
                          refine (K13.out _ HR4.out.su).mono ?_
                          rintro ze wc2 ⟨⟨o9, n9, c9, rfl, hs9, hf9⟩, hb9⟩
                          try go_simp
                          have HS5 := Lib.hid (HS4.out.later hb9)
                          have HSu := Lib.hid hs9
                          have HFu := Lib.hid (show Fr (gp + 1) (.slice o9 n9 c9) from hf9.mono (lt_of_heap HR4.out.p))
                          have HR5 := Lib.hid (HR4.out.later hb9)
                          clear hs9 hf9 hb9
                          refine hK.out _ _ (mkS.out _ _ _ HR5.out) (fun hHeld2 => ?_)
                          clear hK K hHeld
                          have hHeld := hHeld2
                          clear hHeld2
                          try simp only [Act.put, List.setIfInBounds_toArray, List.set_cons_zero, List.set_cons_succ]
                          refine wpAnyH_ready (rs := [8]) (by kernel_rfl) (by simp) ?_
                          refine AllReadyH.cons (o := ⟨none, _, _, _, _, _⟩) rfl (fun K hK => ?_) ?_
                          · obtain ⟨y0, y1⟩ := HR5.out.p.cells
                            go_simp
                            have HR9 := Lib.hid (HR5.out.put HS5.out HF4.out)
                            have HS9 := Lib.hid (HSu.out.awayF HFu.out ⟨gp, 0, none⟩ (Nat.lt_succ_self _) (.slice o5 n5 c5))
                            have HF9 := HFu
                            refine hK.out _ _ (mkS.out _ _ _ HR9.out) (fun hHeld2 => ?_)
                            clear hK K hHeld
                            have hHeld := hHeld2
                            clear hHeld2
                            clear y0 y1
                            try simp only [Act.put, List.setIfInBounds_toArray, List.set_cons_zero, List.set_cons_succ]
                            generalize wc2.setCell ⟨gp, 0, none⟩ (.slice o5 n5 c5) = wc3 at *
                            refine wpAnyH_take (i := 9) (oi := ⟨some 4, _, _, _, _, _⟩) (v := ?_) rfl (by kernel_rfl) (by kernel_rfl) (by kernel_rfl) (fun _ _ _ h => h) (Or.inl ⟨by rfl, by (intro w hSw; (try dsimp only at hSw); go_simp; try with_reducible rfl)⟩) hHeld ?_
                            try simp only [Act.put, List.setIfInBounds_toArray, List.set_cons_zero, List.set_cons_succ]
                            refine wpAnyH_take (i := 10) (oi := ⟨some 7, _, _, _, _, _⟩) (v := ?_) rfl (by kernel_rfl) (by kernel_rfl) (by kernel_rfl) (fun _ _ _ h => h) (Or.inl ⟨by rfl, by (intro w hSw; (try dsimp only at hSw); go_simp; try with_reducible rfl)⟩) hHeld ?_
                            try simp only [Act.put, List.setIfInBounds_toArray, List.set_cons_zero, List.set_cons_succ]
                            refine wpAnyH_done (by kernel_rfl) ?_ _
                            try simp only [Exit.inBlock, Exit.then]
                            apply_assumption
                            obtain ⟨p0, p1⟩ := HR9.out.p.cells
                            go_wp2_with (first
                              | (go_at_call 15; ((with_reducible refine (K15.out _ _ _ HR9.out.sm HS9.out).mono ?_); rintro e wa ⟨rfl, hba⟩; have HRa := Lib.hid (HR9.out.later hba); have HSa := Lib.hid (HS9.out.later hba); obtain ⟨z0, _⟩ := HRa.out.was.cells; clear hba))
                              | (go_at_call 15; ((with_reducible refine (K15'.out _ _ _ HRa.out.sv HRa.out.su).mono ?_); rintro e wb ⟨rfl, hbb⟩; have HRb := Lib.hid (HRa.out.later hbb); have HSb := Lib.hid (HSa.out.later hbb); clear hbb)))
                            go_roundw
                            case rel => exact ⟨k + 1, _, _, by omega, by go_num, Lib.hid (HRb.out.inv HSb.out HF9.out HOM.out)⟩
                            case measure => simp [intOf]; omega
                          · exact AllReadyH.nil
                        · exact AllReadyH.nil
                      · exact AllReadyH.nil
                    · exact AllReadyH.nil
                  · have K12 := Lib.hid (fun W h => clear_any L t (.slice o L.length c) HL64.out W h)
                    have K13 := Lib.hid (fun W h => rclear_any L t (.slice ou L.length cu) HL64.out W h)
                    have HOM := Lib.hid (HOL.out.clear t)
                    have K15 := Lib.hid (fun v u W h1 h2 => is_any (L.filter (keep t)) v u (by have := HOM.out.1; omega) HOM.out.2 W h1 h2)
                    have K15' := Lib.hid (fun v u W h1 h2 => is_any L v u HL64.out HOL.out.2 W h1 h2)
                    generalize L.filter (keep t) = M at *
                    try dsimp only at *
                    obtain ⟨w2, hw2⟩ : ∃ w2, w2 = ((wr.alloc (.cells #[.int .u8 (d : Int), .int .u64 (t : Int), .string s, .int .i64 i] 30)).alloc (.cells #[.slice o L.length c] 26)) := ⟨_, rfl⟩
                    rw [← hw2] at HR2
                    go_wp2_with (fail)
                    rw [← hw2]
                    clear hw2 pa pb HP1
                    have HR3 := Lib.hid (show Rd w gp wr.heap.size (.slice o L.length c) (.slice ou L.length cu) (.slice o L.length c) L L ⟨d, t, s, i⟩ w2.drew from HR2.out.drewN 1)
                    have mkS : Hid (∀ v' M' wz, Rd w gp wr.heap.size (.slice o L.length c) (.slice ou L.length cu) v' L M' ⟨d, t, s, i⟩ wz → wz.cell? ⟨wr.heap.size, 1, none⟩ = some (.int .u64 (t : Int)) ∧ wz.cell? ⟨wr.heap.size, 2, none⟩ = some (.string s) ∧ Hid True) := Lib.hid (fun v' M' wz h => ⟨h.a.cells.2.1, h.a.cells.2.2.1, Lib.hid True.intro⟩)
                    refine wp_region_held_drew (S := fun wz => wz.cell? ⟨wr.heap.size, 1, none⟩ = some (.int .u64 (t : Int)) ∧ wz.cell? ⟨wr.heap.size, 2, none⟩ = some (.string s) ∧ Hid True) (by kernel_rfl) (mkS.out _ _ _ HR3.out) (fun hHeld => ?_)
                    clear HR2
                    generalize w2.drew = wc0 at *
                    obtain ⟨p0, p1⟩ := HR3.out.p.cells
                    refine wpAnyH_take (i := 1) (oi := ⟨some 117, _, _, _, _, _⟩) (v := ?_) rfl (by kernel_rfl) (by kernel_rfl) (by kernel_rfl) (fun _ _ _ h => h) (Or.inl ⟨by rfl, by (intro w hSw; (try dsimp only at hSw); go_simp; try with_reducible rfl)⟩) hHeld ?_
                    try simp only [Act.put, List.setIfInBounds_toArray, List.set_cons_zero, List.set_cons_succ]
                    refine wpAnyH_take (i := 2) (oi := ⟨some 118, _, _, _, _, _⟩) (v := ?_) rfl (by kernel_rfl) (by kernel_rfl) (by kernel_rfl) (fun _ _ _ h => h) (Or.inl ⟨by rfl, by (intro w hSw; (try dsimp only at hSw); go_simp; try with_reducible rfl)⟩) hHeld ?_
                    try simp only [Act.put, List.setIfInBounds_toArray, List.set_cons_zero, List.set_cons_succ]
                    refine wpAnyH_take (i := 4) (oi := ⟨some 120, _, _, _, _, _⟩) (v := ?_) rfl (by kernel_rfl) (by kernel_rfl) (by kernel_rfl) (fun _ _ _ h => h) (Or.inl ⟨by rfl, by (intro w hSw; (try dsimp only at hSw); go_simp; try with_reducible rfl)⟩) hHeld ?_
                    try simp only [Act.put, List.setIfInBounds_toArray, List.set_cons_zero, List.set_cons_succ]
                    refine wpAnyH_take (i := 5) (oi := ⟨some 121, _, _, _, _, _⟩) (v := ?_) rfl (by kernel_rfl) (by kernel_rfl) (by kernel_rfl) (fun _ _ _ h => h) (Or.inl ⟨by rfl, by (intro w hSw; (try dsimp only at hSw); go_simp; try with_reducible rfl)⟩) hHeld ?_
                    try simp only [Act.put, List.setIfInBounds_toArray, List.set_cons_zero, List.set_cons_succ]
                    refine wpAnyH_take (i := 6) (oi := ⟨some 122, _, _, _, _, _⟩) (v := ?_) rfl (by kernel_rfl) (by kernel_rfl) (by kernel_rfl) (fun _ _ _ h => h) (Or.inl ⟨by rfl, by (intro w hSw; (try dsimp only at hSw); go_simp; try with_reducible rfl)⟩) hHeld ?_
                    try simp only [Act.put, List.setIfInBounds_toArray, List.set_cons_zero, List.set_cons_succ]
                    refine wpAnyH_ready (rs := [0]) (by kernel_rfl) (by simp) ?_
                    refine AllReadyH.cons (o := ⟨some 116, _, _, _, _, _⟩) rfl (fun K hK => ?_) ?_
                    · go_simp
                      refine hK.out _ _ (mkS.out _ _ _ HR3.out) (fun hHeld2 => ?_)
                      clear hK K hHeld
                      have hHeld := hHeld2
                      clear hHeld2
                      clear p0 p1
                      try simp only [Act.put, List.setIfInBounds_toArray, List.set_cons_zero, List.set_cons_succ]
                      refine wpAnyH_ready (rs := [3]) (by kernel_rfl) (by simp) ?_
                      refine AllReadyH.cons (o := ⟨some 119, _, _, _, _, _⟩) rfl (fun K hK => ?_) ?_
                      · go_simp
                        refine (K12.out _ HR3.out.sm).mono ?_
                        rintro ze wc1 ⟨⟨o5, n5, c5, rfl, hs5, hf5⟩, hb5⟩
                        try go_simp
                        have HS4 := Lib.hid hs5
                        have HF4 := Lib.hid (show Fr (gp + 1) (.slice o5 n5 c5) from hf5.mono (lt_of_heap HR3.out.p))
                        have HR4 := Lib.hid (HR3.out.later hb5)
                        clear hs5 hf5 hb5
                        refine hK.out _ _ (mkS.out _ _ _ HR4.out) (fun hHeld2 => ?_)
                        clear hK K hHeld
                        have hHeld := hHeld2
                        clear hHeld2
                        try simp only [Act.put, List.setIfInBounds_toArray, List.set_cons_zero, List.set_cons_succ]
                        refine wpAnyH_ready (rs := [7]) (by kernel_rfl) (by simp) ?_
                        refine AllReadyH.cons (o := ⟨some 123, _, _, _, _, _⟩) rfl (fun K hK => ?_) ?_
                        · go_simp
                          refine (K13.out _ HR4.out.su).mono ?_
                          rintro ze wc2 ⟨⟨o9, n9, c9, rfl, hs9, hf9⟩, hb9⟩
                          try go_simp
                          have HS5 := Lib.hid (HS4.out.later hb9)
                          have HSu := Lib.hid hs9
                          have HFu := Lib.hid (show Fr (gp + 1) (.slice o9 n9 c9) from hf9.mono (lt_of_heap HR4.out.p))
                          have HR5 := Lib.hid (HR4.out.later hb9)
                          clear hs9 hf9 hb9
                          refine hK.out _ _ (mkS.out _ _ _ HR5.out) (fun hHeld2 => ?_)
                          clear hK K hHeld
                          have hHeld := hHeld2
                          clear hHeld2
                          try simp only [Act.put, List.setIfInBounds_toArray, List.set_cons_zero, List.set_cons_succ]
                          refine wpAnyH_ready (rs := [8]) (by kernel_rfl) (by simp) ?_
                          refine AllReadyH.cons (o := ⟨none, _, _, _, _, _⟩) rfl (fun K hK => ?_) ?_
                          · obtain ⟨y0, y1⟩ := HR5.out.p.cells
                            go_simp
                            have HR9 := Lib.hid (HR5.out.put HS5.out HF4.out)
                            have HS9 := Lib.hid (HSu.out.awayF HFu.out ⟨gp, 0, none⟩ (Nat.lt_succ_self _) (.slice o5 n5 c5))
                            have HF9 := HFu
                            refine hK.out _ _ (mkS.out _ _ _ HR9.out) (fun hHeld2 => ?_)
                            clear hK K hHeld
                            have hHeld := hHeld2
                            clear hHeld2
                            clear y0 y1
                            try simp only [Act.put, List.setIfInBounds_toArray, List.set_cons_zero, List.set_cons_succ]
                            generalize wc2.setCell ⟨gp, 0, none⟩ (.slice o5 n5 c5) = wc3 at *
                            refine wpAnyH_take (i := 9) (oi := ⟨some 4, _, _, _, _, _⟩) (v := ?_) rfl (by kernel_rfl) (by kernel_rfl) (by kernel_rfl) (fun _ _ _ h => h) (Or.inl ⟨by rfl, by (intro w hSw; (try dsimp only at hSw); go_simp; try with_reducible rfl)⟩) hHeld ?_
                            try simp only [Act.put, List.setIfInBounds_toArray, List.set_cons_zero, List.set_cons_succ]
                            refine wpAnyH_take (i := 10) (oi := ⟨some 7, _, _, _, _, _⟩) (v := ?_) rfl (by kernel_rfl) (by kernel_rfl) (by kernel_rfl) (fun _ _ _ h => h) (Or.inl ⟨by rfl, by (intro w hSw; (try dsimp only at hSw); go_simp; try with_reducible rfl)⟩) hHeld ?_
                            try simp only [Act.put, List.setIfInBounds_toArray, List.set_cons_zero, List.set_cons_succ]
                            refine wpAnyH_done (by kernel_rfl) ?_ _
                            try simp only [Exit.inBlock, Exit.then]
                            apply_assumption
                            obtain ⟨p0, p1⟩ := HR9.out.p.cells
                            go_wp2_with (first
                              | (go_at_call 15; ((with_reducible refine (K15.out _ _ _ HR9.out.sm HS9.out).mono ?_); rintro e wa ⟨rfl, hba⟩; have HRa := Lib.hid (HR9.out.later hba); have HSa := Lib.hid (HS9.out.later hba); obtain ⟨z0, _⟩ := HRa.out.was.cells; clear hba))
                              | (go_at_call 15; ((with_reducible refine (K15'.out _ _ _ HRa.out.sv HRa.out.su).mono ?_); rintro e wb ⟨rfl, hbb⟩; have HRb := Lib.hid (HRa.out.later hbb); have HSb := Lib.hid (HSa.out.later hbb); clear hbb)))
                            go_roundw
                            case rel => exact ⟨k + 1, _, _, by omega, by go_num, Lib.hid (HRb.out.inv HSb.out HF9.out HOM.out)⟩
                            case measure => simp [intOf]; omega
                          · exact AllReadyH.nil
                        · exact AllReadyH.nil
                      · exact AllReadyH.nil
                    · exact AllReadyH.nil
                · have hi2 : i < 0 := by omega
                  have K12 := Lib.hid (fun W h => clear_any L t (.slice o L.length c) HL64.out W h)
                  have K13 := Lib.hid (fun W h => rclear_any L t (.slice ou L.length cu) HL64.out W h)
                  have HOM := Lib.hid (HOL.out.clear t)
                  have K15 := Lib.hid (fun v u W h1 h2 => is_any (L.filter (keep t)) v u (by have := HOM.out.1; omega) HOM.out.2 W h1 h2)
                  have K15' := Lib.hid (fun v u W h1 h2 => is_any L v u HL64.out HOL.out.2 W h1 h2)
                  generalize L.filter (keep t) = M at *
                  try dsimp only at *
                  obtain ⟨w2, hw2⟩ : ∃ w2, w2 = ((wr.alloc (.cells #[.int .u8 (d : Int), .int .u64 (t : Int), .string s, .int .i64 i] 30)).alloc (.cells #[.slice o L.length c] 26)) := ⟨_, rfl⟩
                  rw [← hw2] at HR2
                  go_wp2_with (fail)
                  rw [← hw2]
                  clear hw2 pa pb HP1
                  have HR3 := Lib.hid (show Rd w gp wr.heap.size (.slice o L.length c) (.slice ou L.length cu) (.slice o L.length c) L L ⟨d, t, s, i⟩ w2.drew from HR2.out.drewN 1)
                  have mkS : Hid (∀ v' M' wz, Rd w gp wr.heap.size (.slice o L.length c) (.slice ou L.length cu) v' L M' ⟨d, t, s, i⟩ wz → wz.cell? ⟨wr.heap.size, 1, none⟩ = some (.int .u64 (t : Int)) ∧ wz.cell? ⟨wr.heap.size, 2, none⟩ = some (.string s) ∧ Hid True) := Lib.hid (fun v' M' wz h => ⟨h.a.cells.2.1, h.a.cells.2.2.1, Lib.hid True.intro⟩)
                  refine wp_region_held_drew (S := fun wz => wz.cell? ⟨wr.heap.size, 1, none⟩ = some (.int .u64 (t : Int)) ∧ wz.cell? ⟨wr.heap.size, 2, none⟩ = some (.string s) ∧ Hid True) (by kernel_rfl) (mkS.out _ _ _ HR3.out) (fun hHeld => ?_)
                  clear HR2
                  generalize w2.drew = wc0 at *
                  obtain ⟨p0, p1⟩ := HR3.out.p.cells
                  refine wpAnyH_take (i := 1) (oi := ⟨some 117, _, _, _, _, _⟩) (v := ?_) rfl (by kernel_rfl) (by kernel_rfl) (by kernel_rfl) (fun _ _ _ h => h) (Or.inl ⟨by rfl, by (intro w hSw; (try dsimp only at hSw); go_simp; try with_reducible rfl)⟩) hHeld ?_
                  try simp only [Act.put, List.setIfInBounds_toArray, List.set_cons_zero, List.set_cons_succ]
                  refine wpAnyH_take (i := 2) (oi := ⟨some 118, _, _, _, _, _⟩) (v := ?_) rfl (by kernel_rfl) (by kernel_rfl) (by kernel_rfl) (fun _ _ _ h => h) (Or.inl ⟨by rfl, by (intro w hSw; (try dsimp only at hSw); go_simp; try with_reducible rfl)⟩) hHeld ?_
                  try simp only [Act.put, List.setIfInBounds_toArray, List.set_cons_zero, List.set_cons_succ]
                  refine wpAnyH_take (i := 4) (oi := ⟨some 120, _, _, _, _, _⟩) (v := ?_) rfl (by kernel_rfl) (by kernel_rfl) (by kernel_rfl) (fun _ _ _ h => h) (Or.inl ⟨by rfl, by (intro w hSw; (try dsimp only at hSw); go_simp; try with_reducible rfl)⟩) hHeld ?_
                  try simp only [Act.put, List.setIfInBounds_toArray, List.set_cons_zero, List.set_cons_succ]
                  refine wpAnyH_take (i := 5) (oi := ⟨some 121, _, _, _, _, _⟩) (v := ?_) rfl (by kernel_rfl) (by kernel_rfl) (by kernel_rfl) (fun _ _ _ h => h) (Or.inl ⟨by rfl, by (intro w hSw; (try dsimp only at hSw); go_simp; try with_reducible rfl)⟩) hHeld ?_
                  try simp only [Act.put, List.setIfInBounds_toArray, List.set_cons_zero, List.set_cons_succ]
                  refine wpAnyH_take (i := 6) (oi := ⟨some 122, _, _, _, _, _⟩) (v := ?_) rfl (by kernel_rfl) (by kernel_rfl) (by kernel_rfl) (fun _ _ _ h => h) (Or.inl ⟨by rfl, by (intro w hSw; (try dsimp only at hSw); go_simp; try with_reducible rfl)⟩) hHeld ?_
                  try simp only [Act.put, List.setIfInBounds_toArray, List.set_cons_zero, List.set_cons_succ]
                  refine wpAnyH_ready (rs := [0]) (by kernel_rfl) (by simp) ?_
                  refine AllReadyH.cons (o := ⟨some 116, _, _, _, _, _⟩) rfl (fun K hK => ?_) ?_
                  · go_simp
                    refine hK.out _ _ (mkS.out _ _ _ HR3.out) (fun hHeld2 => ?_)
                    clear hK K hHeld
                    have hHeld := hHeld2
                    clear hHeld2
                    clear p0 p1
                    try simp only [Act.put, List.setIfInBounds_toArray, List.set_cons_zero, List.set_cons_succ]
                    refine wpAnyH_ready (rs := [3]) (by kernel_rfl) (by simp) ?_
                    refine AllReadyH.cons (o := ⟨some 119, _, _, _, _, _⟩) rfl (fun K hK => ?_) ?_
                    · go_simp
                      refine (K12.out _ HR3.out.sm).mono ?_
                      rintro ze wc1 ⟨⟨o5, n5, c5, rfl, hs5, hf5⟩, hb5⟩
                      try go_simp
                      have HS4 := Lib.hid hs5
                      have HF4 := Lib.hid (show Fr (gp + 1) (.slice o5 n5 c5) from hf5.mono (lt_of_heap HR3.out.p))
                      have HR4 := Lib.hid (HR3.out.later hb5)
                      clear hs5 hf5 hb5
                      refine hK.out _ _ (mkS.out _ _ _ HR4.out) (fun hHeld2 => ?_)
                      clear hK K hHeld
                      have hHeld := hHeld2
                      clear hHeld2
                      try simp only [Act.put, List.setIfInBounds_toArray, List.set_cons_zero, List.set_cons_succ]
                      refine wpAnyH_ready (rs := [7]) (by kernel_rfl) (by simp) ?_
                      refine AllReadyH.cons (o := ⟨some 123, _, _, _, _, _⟩) rfl (fun K hK => ?_) ?_
                      · go_simp
                        refine (K13.out _ HR4.out.su).mono ?_
                        rintro ze wc2 ⟨⟨o9, n9, c9, rfl, hs9, hf9⟩, hb9⟩
                        try go_simp
                        have HS5 := Lib.hid (HS4.out.later hb9)
                        have HSu := Lib.hid hs9
                        have HFu := Lib.hid (show Fr (gp + 1) (.slice o9 n9 c9) from hf9.mono (lt_of_heap HR4.out.p))
                        have HR5 := Lib.hid (HR4.out.later hb9)
                        clear hs9 hf9 hb9
                        refine hK.out _ _ (mkS.out _ _ _ HR5.out) (fun hHeld2 => ?_)
                        clear hK K hHeld
                        have hHeld := hHeld2
                        clear hHeld2
                        try simp only [Act.put, List.setIfInBounds_toArray, List.set_cons_zero, List.set_cons_succ]
                        refine wpAnyH_ready (rs := [8]) (by kernel_rfl) (by simp) ?_
                        refine AllReadyH.cons (o := ⟨none, _, _, _, _, _⟩) rfl (fun K hK => ?_) ?_
                        · obtain ⟨y0, y1⟩ := HR5.out.p.cells
                          go_simp
                          have HR9 := Lib.hid (HR5.out.put HS5.out HF4.out)
                          have HS9 := Lib.hid (HSu.out.awayF HFu.out ⟨gp, 0, none⟩ (Nat.lt_succ_self _) (.slice o5 n5 c5))
                          have HF9 := HFu
                          refine hK.out _ _ (mkS.out _ _ _ HR9.out) (fun hHeld2 => ?_)
                          clear hK K hHeld
                          have hHeld := hHeld2
                          clear hHeld2
                          clear y0 y1
                          try simp only [Act.put, List.setIfInBounds_toArray, List.set_cons_zero, List.set_cons_succ]
                          generalize wc2.setCell ⟨gp, 0, none⟩ (.slice o5 n5 c5) = wc3 at *
                          refine wpAnyH_take (i := 9) (oi := ⟨some 4, _, _, _, _, _⟩) (v := ?_) rfl (by kernel_rfl) (by kernel_rfl) (by kernel_rfl) (fun _ _ _ h => h) (Or.inl ⟨by rfl, by (intro w hSw; (try dsimp only at hSw); go_simp; try with_reducible rfl)⟩) hHeld ?_
                          try simp only [Act.put, List.setIfInBounds_toArray, List.set_cons_zero, List.set_cons_succ]
                          refine wpAnyH_take (i := 10) (oi := ⟨some 7, _, _, _, _, _⟩) (v := ?_) rfl (by kernel_rfl) (by kernel_rfl) (by kernel_rfl) (fun _ _ _ h => h) (Or.inl ⟨by rfl, by (intro w hSw; (try dsimp only at hSw); go_simp; try with_reducible rfl)⟩) hHeld ?_
                          try simp only [Act.put, List.setIfInBounds_toArray, List.set_cons_zero, List.set_cons_succ]
                          refine wpAnyH_done (by kernel_rfl) ?_ _
                          try simp only [Exit.inBlock, Exit.then]
                          apply_assumption
                          obtain ⟨p0, p1⟩ := HR9.out.p.cells
                          go_wp2_with (first
                            | (go_at_call 15; ((with_reducible refine (K15.out _ _ _ HR9.out.sm HS9.out).mono ?_); rintro e wa ⟨rfl, hba⟩; have HRa := Lib.hid (HR9.out.later hba); have HSa := Lib.hid (HS9.out.later hba); obtain ⟨z0, _⟩ := HRa.out.was.cells; clear hba))
                            | (go_at_call 15; ((with_reducible refine (K15'.out _ _ _ HRa.out.sv HRa.out.su).mono ?_); rintro e wb ⟨rfl, hbb⟩; have HRb := Lib.hid (HRa.out.later hbb); have HSb := Lib.hid (HSa.out.later hbb); clear hbb)))
                          go_roundw
                          case rel => exact ⟨k + 1, _, _, by omega, by go_num, Lib.hid (HRb.out.inv HSb.out HF9.out HOM.out)⟩
                          case measure => simp [intOf]; omega
                        · exact AllReadyH.nil
                      · exact AllReadyH.nil
                    · exact AllReadyH.nil
                  · exact AllReadyH.nil
              · have h5 : ((d : Int) % 6 == 5) = false := by rw [beq_eq_false_iff_ne]; omega
                clear hd5
                by_cases hi0 : 0 ≤ i
                · by_cases hi1 : i < (L.length : Int)
                  · have K14 := Lib.hid (fun W h => send_any L t s (.slice o L.length c) HL64.out HOK.out.s W h)
                    have K10 := Lib.hid (fun W h => rsend_any L ⟨t, s⟩ (.slice ou L.length cu) HOL.out.1 W h)
                    have HOM := Lib.hid (HOL.out.send ⟨t, s⟩ HOK.out.s)
                    unfold iv at K10
                    have K15 := Lib.hid (fun v u W h1 h2 => is_any (sendL L ⟨t, s⟩) v u (by have := HOM.out.1; omega) HOM.out.2 W h1 h2)
                    have K15' := Lib.hid (fun v u W h1 h2 => is_any L v u HL64.out HOL.out.2 W h1 h2)
                    generalize sendL L ⟨t, s⟩ = M at *
                    try dsimp only at *
                    obtain ⟨w2, hw2⟩ : ∃ w2, w2 = ((wr.alloc (.cells #[.int .u8 (d : Int), .int .u64 (t : Int), .string s, .int .i64 i] 30)).alloc (.cells #[.slice o L.length c] 26)) := ⟨_, rfl⟩
                    rw [← hw2] at HR2
                    go_wp2_with (fail)
                    rw [← hw2]
                    clear hw2 pa pb HP1
                    have HR3 := Lib.hid (show Rd w gp wr.heap.size (.slice o L.length c) (.slice ou L.length cu) (.slice o L.length c) L L ⟨d, t, s, i⟩ w2.drew from HR2.out.drewN 1)
                    have mkS : Hid (∀ v' M' wz, Rd w gp wr.heap.size (.slice o L.length c) (.slice ou L.length cu) v' L M' ⟨d, t, s, i⟩ wz → wz.cell? ⟨wr.heap.size, 1, none⟩ = some (.int .u64 (t : Int)) ∧ wz.cell? ⟨wr.heap.size, 2, none⟩ = some (.string s) ∧ Hid True) := Lib.hid (fun v' M' wz h => ⟨h.a.cells.2.1, h.a.cells.2.2.1, Lib.hid True.intro⟩)
                    refine wp_region_held_drew (S := fun wz => wz.cell? ⟨wr.heap.size, 1, none⟩ = some (.int .u64 (t : Int)) ∧ wz.cell? ⟨wr.heap.size, 2, none⟩ = some (.string s) ∧ Hid True) (by kernel_rfl) (mkS.out _ _ _ HR3.out) (fun hHeld => ?_)
                    clear HR2
                    generalize w2.drew = wc0 at *
                    obtain ⟨p0, p1⟩ := HR3.out.p.cells
                    refine wpAnyH_take (i := 1) (oi := ⟨some 39, _, _, _, _, _⟩) (v := ?_) rfl (by kernel_rfl) (by kernel_rfl) (by kernel_rfl) (fun _ _ _ h => h) (Or.inl ⟨by rfl, by (intro w hSw; (try dsimp only at hSw); go_simp; try with_reducible rfl)⟩) hHeld ?_
                    try simp only [Act.put, List.setIfInBounds_toArray, List.set_cons_zero, List.set_cons_succ]
                    refine wpAnyH_take (i := 2) (oi := ⟨some 40, _, _, _, _, _⟩) (v := ?_) rfl (by kernel_rfl) (by kernel_rfl) (by kernel_rfl) (fun _ _ _ h => h) (Or.inl ⟨by rfl, by (intro w hSw; (try dsimp only at hSw); go_simp; try with_reducible rfl)⟩) hHeld ?_
                    try simp only [Act.put, List.setIfInBounds_toArray, List.set_cons_zero, List.set_cons_succ]
                    refine wpAnyH_take (i := 3) (oi := ⟨some 41, _, _, _, _, _⟩) (v := ?_) rfl (by kernel_rfl) (by kernel_rfl) (by kernel_rfl) (fun _ _ _ h => h) (Or.inl ⟨by rfl, by (intro w hSw; (try dsimp only at hSw); go_simp; try with_reducible rfl)⟩) hHeld ?_
                    try simp only [Act.put, List.setIfInBounds_toArray, List.set_cons_zero, List.set_cons_succ]
                    refine wpAnyH_take (i := 4) (oi := ⟨some 42, _, _, _, _, _⟩) (v := ?_) rfl (by kernel_rfl) (by kernel_rfl) (by kernel_rfl) (fun _ _ _ h => h) (Or.inl ⟨by rfl, by (intro w hSw; (try dsimp only at hSw); go_simp; try with_reducible rfl)⟩) hHeld ?_
                    try simp only [Act.put, List.setIfInBounds_toArray, List.set_cons_zero, List.set_cons_succ]
                    refine wpAnyH_take (i := 6) (oi := ⟨some 44, _, _, _, _, _⟩) (v := ?_) rfl (by kernel_rfl) (by kernel_rfl) (by kernel_rfl) (fun _ _ _ h => h) (Or.inl ⟨by rfl, by (intro w hSw; (try dsimp only at hSw); go_simp; try with_reducible rfl)⟩) hHeld ?_
                    try simp only [Act.put, List.setIfInBounds_toArray, List.set_cons_zero, List.set_cons_succ]
                    refine wpAnyH_take (i := 7) (oi := ⟨some 45, _, _, _, _, _⟩) (v := ?_) rfl (by kernel_rfl) (by kernel_rfl) (by kernel_rfl) (fun _ _ _ h => h) (Or.inl ⟨by rfl, by (intro w hSw; (try dsimp only at hSw); go_simp; try with_reducible rfl)⟩) hHeld ?_
                    try simp only [Act.put, List.setIfInBounds_toArray, List.set_cons_zero, List.set_cons_succ]
                    refine wpAnyH_take (i := 8) (oi := ⟨some 46, _, _, _, _, _⟩) (v := ?_) rfl (by kernel_rfl) (by kernel_rfl) (by kernel_rfl) (fun _ _ _ h => h) (Or.inl ⟨by rfl, by (intro w hSw; (try dsimp only at hSw); go_simp; try with_reducible rfl)⟩) hHeld ?_
                    try simp only [Act.put, List.setIfInBounds_toArray, List.set_cons_zero, List.set_cons_succ]
                    refine wpAnyH_take (i := 9) (oi := ⟨some 47, _, _, _, _, _⟩) (v := ?_) rfl (by kernel_rfl) (by kernel_rfl) (by kernel_rfl) (fun _ _ _ h => h) (Or.inl ⟨by rfl, by (intro w hSw; (try dsimp only at hSw); go_simp; try with_reducible rfl)⟩) hHeld ?_
                    try simp only [Act.put, List.setIfInBounds_toArray, List.set_cons_zero, List.set_cons_succ]
                    refine wpAnyH_take (i := 10) (oi := ⟨some 48, _, _, _, _, _⟩) (v := ?_) rfl (by kernel_rfl) (by kernel_rfl) (by kernel_rfl) (fun _ _ _ h => h) (Or.inl ⟨by rfl, by (intro w hSw; (try dsimp only at hSw); go_simp; try with_reducible rfl)⟩) hHeld ?_
                    try simp only [Act.put, List.setIfInBounds_toArray, List.set_cons_zero, List.set_cons_succ]
                    refine wpAnyH_take (i := 11) (oi := ⟨some 49, _, _, _, _, _⟩) (v := ?_) rfl (by kernel_rfl) (by kernel_rfl) (by kernel_rfl) (fun _ _ _ h => h) (Or.inl ⟨by rfl, by (intro w hSw; (try dsimp only at hSw); go_simp; try with_reducible rfl)⟩) hHeld ?_
                    try simp only [Act.put, List.setIfInBounds_toArray, List.set_cons_zero, List.set_cons_succ]
                    refine wpAnyH_ready (rs := [0]) (by kernel_rfl) (by simp) ?_
                    refine AllReadyH.cons (o := ⟨some 38, _, _, _, _, _⟩) rfl (fun K hK => ?_) ?_
                    · go_simp
                      refine hK.out _ _ (mkS.out _ _ _ HR3.out) (fun hHeld2 => ?_)
                      clear hK K hHeld
                      have hHeld := hHeld2
                      clear hHeld2
                      clear p0 p1
                      try simp only [Act.put, List.setIfInBounds_toArray, List.set_cons_zero, List.set_cons_succ]
                      refine wpAnyH_ready (rs := [5]) (by kernel_rfl) (by simp) ?_
                      refine AllReadyH.cons (o := ⟨some 43, _, _, _, _, _⟩) rfl (fun K hK => ?_) ?_
                      · go_simp
                        refine (K14.out _ HR3.out.sm).mono ?_
                        rintro ze wc1 ⟨⟨o5, n5, c5, rfl, hs5, hf5⟩, hb5⟩
                        try go_simp
                        have HS4 := Lib.hid hs5
                        have HF4 := Lib.hid (show Fr (gp + 1) (.slice o5 n5 c5) from hf5.mono (lt_of_heap HR3.out.p))
                        have HR4 := Lib.hid (HR3.out.later hb5)
                        clear hs5 hf5 hb5
                        refine hK.out _ _ (mkS.out _ _ _ HR4.out) (fun hHeld2 => ?_)
                        clear hK K hHeld
                        have hHeld := hHeld2
                        clear hHeld2
                        try simp only [Act.put, List.setIfInBounds_toArray, List.set_cons_zero, List.set_cons_succ]
                        refine wpAnyH_ready (rs := [12]) (by kernel_rfl) (by simp) ?_
                        refine AllReadyH.cons (o := ⟨some 50, _, _, _, _, _⟩) rfl (fun K hK => ?_) ?_
                        · go_simp
                          refine (K10.out _ HR4.out.su).mono ?_
                          rintro ze wc2 ⟨⟨o9, n9, c9, rfl, hs9, hf9⟩, hb9⟩
                          try go_simp
                          have HS5 := Lib.hid (HS4.out.later hb9)
                          have HSu := Lib.hid hs9
                          have HFu := Lib.hid (show Fr (gp + 1) (.slice o9 n9 c9) from hf9.mono (lt_of_heap HR4.out.p))
                          have HR5 := Lib.hid (HR4.out.later hb9)
                          clear hs9 hf9 hb9
                          refine hK.out _ _ (mkS.out _ _ _ HR5.out) (fun hHeld2 => ?_)
                          clear hK K hHeld
                          have hHeld := hHeld2
                          clear hHeld2
                          try simp only [Act.put, List.setIfInBounds_toArray, List.set_cons_zero, List.set_cons_succ]
                          refine wpAnyH_ready (rs := [13]) (by kernel_rfl) (by simp) ?_
                          refine AllReadyH.cons (o := ⟨none, _, _, _, _, _⟩) rfl (fun K hK => ?_) ?_
                          · obtain ⟨y0, y1⟩ := HR5.out.p.cells
                            go_simp
                            have HR9 := Lib.hid (HR5.out.put HS5.out HF4.out)
                            have HS9 := Lib.hid (HSu.out.awayF HFu.out ⟨gp, 0, none⟩ (Nat.lt_succ_self _) (.slice o5 n5 c5))
                            have HF9 := HFu
                            refine hK.out _ _ (mkS.out _ _ _ HR9.out) (fun hHeld2 => ?_)
                            clear hK K hHeld
                            have hHeld := hHeld2
                            clear hHeld2
                            clear y0 y1
                            try simp only [Act.put, List.setIfInBounds_toArray, List.set_cons_zero, List.set_cons_succ]
                            generalize wc2.setCell ⟨gp, 0, none⟩ (.slice o5 n5 c5) = wc3 at *
                            refine wpAnyH_take (i := 14) (oi := ⟨some 4, _, _, _, _, _⟩) (v := ?_) rfl (by kernel_rfl) (by kernel_rfl) (by kernel_rfl) (fun _ _ _ h => h) (Or.inl ⟨by rfl, by (intro w hSw; (try dsimp only at hSw); go_simp; try with_reducible rfl)⟩) hHeld ?_
                            try simp only [Act.put, List.setIfInBounds_toArray, List.set_cons_zero, List.set_cons_succ]
                            refine wpAnyH_take (i := 15) (oi := ⟨some 7, _, _, _, _, _⟩) (v := ?_) rfl (by kernel_rfl) (by kernel_rfl) (by kernel_rfl) (fun _ _ _ h => h) (Or.inl ⟨by rfl, by (intro w hSw; (try dsimp only at hSw); go_simp; try with_reducible rfl)⟩) hHeld ?_
                            try simp only [Act.put, List.setIfInBounds_toArray, List.set_cons_zero, List.set_cons_succ]
                            refine wpAnyH_done (by kernel_rfl) ?_ _
                            try simp only [Exit.inBlock, Exit.then]
                            apply_assumption
                            obtain ⟨p0, p1⟩ := HR9.out.p.cells
                            go_wp2_with (first
                              | (go_at_call 15; ((with_reducible refine (K15.out _ _ _ HR9.out.sm HS9.out).mono ?_); rintro e wa ⟨rfl, hba⟩; have HRa := Lib.hid (HR9.out.later hba); have HSa := Lib.hid (HS9.out.later hba); obtain ⟨z0, _⟩ := HRa.out.was.cells; clear hba))
                              | (go_at_call 15; ((with_reducible refine (K15'.out _ _ _ HRa.out.sv HRa.out.su).mono ?_); rintro e wb ⟨rfl, hbb⟩; have HRb := Lib.hid (HRa.out.later hbb); have HSb := Lib.hid (HSa.out.later hbb); clear hbb)))
                            go_roundw
                            case rel => exact ⟨k + 1, _, _, by omega, by go_num, Lib.hid (HRb.out.inv HSb.out HF9.out HOM.out)⟩
                            case measure => simp [intOf]; omega
                          · exact AllReadyH.nil
                        · exact AllReadyH.nil
                      · exact AllReadyH.nil
                    · exact AllReadyH.nil
                  · have K14 := Lib.hid (fun W h => send_any L t s (.slice o L.length c) HL64.out HOK.out.s W h)
                    have K10 := Lib.hid (fun W h => rsend_any L ⟨t, s⟩ (.slice ou L.length cu) HOL.out.1 W h)
                    have HOM := Lib.hid (HOL.out.send ⟨t, s⟩ HOK.out.s)
                    unfold iv at K10
                    have K15 := Lib.hid (fun v u W h1 h2 => is_any (sendL L ⟨t, s⟩) v u (by have := HOM.out.1; omega) HOM.out.2 W h1 h2)
                    have K15' := Lib.hid (fun v u W h1 h2 => is_any L v u HL64.out HOL.out.2 W h1 h2)
                    generalize sendL L ⟨t, s⟩ = M at *
                    try dsimp only at *
                    obtain ⟨w2, hw2⟩ : ∃ w2, w2 = ((wr.alloc (.cells #[.int .u8 (d : Int), .int .u64 (t : Int), .string s, .int .i64 i] 30)).alloc (.cells #[.slice o L.length c] 26)) := ⟨_, rfl⟩
                    rw [← hw2] at HR2
                    go_wp2_with (fail)
                    rw [← hw2]
                    clear hw2 pa pb HP1
                    have HR3 := Lib.hid (show Rd w gp wr.heap.size (.slice o L.length c) (.slice ou L.length cu) (.slice o L.length c) L L ⟨d, t, s, i⟩ w2.drew from HR2.out.drewN 1)
                    have mkS : Hid (∀ v' M' wz, Rd w gp wr.heap.size (.slice o L.length c) (.slice ou L.length cu) v' L M' ⟨d, t, s, i⟩ wz → wz.cell? ⟨wr.heap.size, 1, none⟩ = some (.int .u64 (t : Int)) ∧ wz.cell? ⟨wr.heap.size, 2, none⟩ = some (.string s) ∧ Hid True) := Lib.hid (fun v' M' wz h => ⟨h.a.cells.2.1, h.a.cells.2.2.1, Lib.hid True.intro⟩)
                    refine wp_region_held_drew (S := fun wz => wz.cell? ⟨wr.heap.size, 1, none⟩ = some (.int .u64 (t : Int)) ∧ wz.cell? ⟨wr.heap.size, 2, none⟩ = some (.string s) ∧ Hid True) (by kernel_rfl) (mkS.out _ _ _ HR3.out) (fun hHeld => ?_)
                    clear HR2
                    generalize w2.drew = wc0 at *
                    obtain ⟨p0, p1⟩ := HR3.out.p.cells
                    refine wpAnyH_take (i := 1) (oi := ⟨some 39, _, _, _, _, _⟩) (v := ?_) rfl (by kernel_rfl) (by kernel_rfl) (by kernel_rfl) (fun _ _ _ h => h) (Or.inl ⟨by rfl, by (intro w hSw; (try dsimp only at hSw); go_simp; try with_reducible rfl)⟩) hHeld ?_
                    try simp only [Act.put, List.setIfInBounds_toArray, List.set_cons_zero, List.set_cons_succ]
                    refine wpAnyH_take (i := 2) (oi := ⟨some 40, _, _, _, _, _⟩) (v := ?_) rfl (by kernel_rfl) (by kernel_rfl) (by kernel_rfl) (fun _ _ _ h => h) (Or.inl ⟨by rfl, by (intro w hSw; (try dsimp only at hSw); go_simp; try with_reducible rfl)⟩) hHeld ?_
                    try simp only [Act.put, List.setIfInBounds_toArray, List.set_cons_zero, List.set_cons_succ]
                    refine wpAnyH_take (i := 3) (oi := ⟨some 41, _, _, _, _, _⟩) (v := ?_) rfl (by kernel_rfl) (by kernel_rfl) (by kernel_rfl) (fun _ _ _ h => h) (Or.inl ⟨by rfl, by (intro w hSw; (try dsimp only at hSw); go_simp; try with_reducible rfl)⟩) hHeld ?_
                    try simp only [Act.put, List.setIfInBounds_toArray, List.set_cons_zero, List.set_cons_succ]
                    refine wpAnyH_take (i := 4) (oi := ⟨some 42, _, _, _, _, _⟩) (v := ?_) rfl (by kernel_rfl) (by kernel_rfl) (by kernel_rfl) (fun _ _ _ h => h) (Or.inl ⟨by rfl, by (intro w hSw; (try dsimp only at hSw); go_simp; try with_reducible rfl)⟩) hHeld ?_
                    try simp only [Act.put, List.setIfInBounds_toArray, List.set_cons_zero, List.set_cons_succ]
                    refine wpAnyH_take (i := 6) (oi := ⟨some 44, _, _, _, _, _⟩) (v := ?_) rfl (by kernel_rfl) (by kernel_rfl) (by kernel_rfl) (fun _ _ _ h => h) (Or.inl ⟨by rfl, by (intro w hSw; (try dsimp only at hSw); go_simp; try with_reducible rfl)⟩) hHeld ?_
                    try simp only [Act.put, List.setIfInBounds_toArray, List.set_cons_zero, List.set_cons_succ]
                    refine wpAnyH_take (i := 7) (oi := ⟨some 45, _, _, _, _, _⟩) (v := ?_) rfl (by kernel_rfl) (by kernel_rfl) (by kernel_rfl) (fun _ _ _ h => h) (Or.inl ⟨by rfl, by (intro w hSw; (try dsimp only at hSw); go_simp; try with_reducible rfl)⟩) hHeld ?_
                    try simp only [Act.put, List.setIfInBounds_toArray, List.set_cons_zero, List.set_cons_succ]
                    refine wpAnyH_take (i := 8) (oi := ⟨some 46, _, _, _, _, _⟩) (v := ?_) rfl (by kernel_rfl) (by kernel_rfl) (by kernel_rfl) (fun _ _ _ h => h) (Or.inl ⟨by rfl, by (intro w hSw; (try dsimp only at hSw); go_simp; try with_reducible rfl)⟩) hHeld ?_
                    try simp only [Act.put, List.setIfInBounds_toArray, List.set_cons_zero, List.set_cons_succ]
                    refine wpAnyH_take (i := 9) (oi := ⟨some 47, _, _, _, _, _⟩) (v := ?_) rfl (by kernel_rfl) (by kernel_rfl) (by kernel_rfl) (fun _ _ _ h => h) (Or.inl ⟨by rfl, by (intro w hSw; (try dsimp only at hSw); go_simp; try with_reducible rfl)⟩) hHeld ?_
                    try simp only [Act.put, List.setIfInBounds_toArray, List.set_cons_zero, List.set_cons_succ]
                    refine wpAnyH_take (i := 10) (oi := ⟨some 48, _, _, _, _, _⟩) (v := ?_) rfl (by kernel_rfl) (by kernel_rfl) (by kernel_rfl) (fun _ _ _ h => h) (Or.inl ⟨by rfl, by (intro w hSw; (try dsimp only at hSw); go_simp; try with_reducible rfl)⟩) hHeld ?_
                    try simp only [Act.put, List.setIfInBounds_toArray, List.set_cons_zero, List.set_cons_succ]
                    refine wpAnyH_take (i := 11) (oi := ⟨some 49, _, _, _, _, _⟩) (v := ?_) rfl (by kernel_rfl) (by kernel_rfl) (by kernel_rfl) (fun _ _ _ h => h) (Or.inl ⟨by rfl, by (intro w hSw; (try dsimp only at hSw); go_simp; try with_reducible rfl)⟩) hHeld ?_
                    try simp only [Act.put, List.setIfInBounds_toArray, List.set_cons_zero, List.set_cons_succ]
                    refine wpAnyH_ready (rs := [0]) (by kernel_rfl) (by simp) ?_
                    refine AllReadyH.cons (o := ⟨some 38, _, _, _, _, _⟩) rfl (fun K hK => ?_) ?_
                    · go_simp
                      refine hK.out _ _ (mkS.out _ _ _ HR3.out) (fun hHeld2 => ?_)
                      clear hK K hHeld
                      have hHeld := hHeld2
                      clear hHeld2
                      clear p0 p1
                      try simp only [Act.put, List.setIfInBounds_toArray, List.set_cons_zero, List.set_cons_succ]
                      refine wpAnyH_ready (rs := [5]) (by kernel_rfl) (by simp) ?_
                      refine AllReadyH.cons (o := ⟨some 43, _, _, _, _, _⟩) rfl (fun K hK => ?_) ?_
                      · go_simp
                        refine (K14.out _ HR3.out.sm).mono ?_
                        rintro ze wc1 ⟨⟨o5, n5, c5, rfl, hs5, hf5⟩, hb5⟩
                        try go_simp
                        have HS4 := Lib.hid hs5
                        have HF4 := Lib.hid (show Fr (gp + 1) (.slice o5 n5 c5) from hf5.mono (lt_of_heap HR3.out.p))
                        have HR4 := Lib.hid (HR3.out.later hb5)
                        clear hs5 hf5 hb5
                        refine hK.out _ _ (mkS.out _ _ _ HR4.out) (fun hHeld2 => ?_)
                        clear hK K hHeld
                        have hHeld := hHeld2
                        clear hHeld2
                        try simp only [Act.put, List.setIfInBounds_toArray, List.set_cons_zero, List.set_cons_succ]
                        refine wpAnyH_ready (rs := [12]) (by kernel_rfl) (by simp) ?_
                        refine AllReadyH.cons (o := ⟨some 50, _, _, _, _, _⟩) rfl (fun K hK => ?_) ?_
                        · go_simp
                          refine (K10.out _ HR4.out.su).mono ?_
                          rintro ze wc2 ⟨⟨o9, n9, c9, rfl, hs9, hf9⟩, hb9⟩
                          try go_simp
                          have HS5 := Lib.hid (HS4.out.later hb9)
                          have HSu := Lib.hid hs9
                          have HFu := Lib.hid (show Fr (gp + 1) (.slice o9 n9 c9) from hf9.mono (lt_of_heap HR4.out.p))
                          have HR5 := Lib.hid (HR4.out.later hb9)
                          clear hs9 hf9 hb9
                          refine hK.out _ _ (mkS.out _ _ _ HR5.out) (fun hHeld2 => ?_)
                          clear hK K hHeld
                          have hHeld := hHeld2
                          clear hHeld2
                          try simp only [Act.put, List.setIfInBounds_toArray, List.set_cons_zero, List.set_cons_succ]
                          refine wpAnyH_ready (rs := [13]) (by kernel_rfl) (by simp) ?_
                          refine AllReadyH.cons (o := ⟨none, _, _, _, _, _⟩) rfl (fun K hK => ?_) ?_
                          · obtain ⟨y0, y1⟩ := HR5.out.p.cells
                            go_simp
                            have HR9 := Lib.hid (HR5.out.put HS5.out HF4.out)
                            have HS9 := Lib.hid (HSu.out.awayF HFu.out ⟨gp, 0, none⟩ (Nat.lt_succ_self _) (.slice o5 n5 c5))
                            have HF9 := HFu
                            refine hK.out _ _ (mkS.out _ _ _ HR9.out) (fun hHeld2 => ?_)
                            clear hK K hHeld
                            have hHeld := hHeld2
                            clear hHeld2
                            clear y0 y1
                            try simp only [Act.put, List.setIfInBounds_toArray, List.set_cons_zero, List.set_cons_succ]
                            generalize wc2.setCell ⟨gp, 0, none⟩ (.slice o5 n5 c5) = wc3 at *
                            refine wpAnyH_take (i := 14) (oi := ⟨some 4, _, _, _, _, _⟩) (v := ?_) rfl (by kernel_rfl) (by kernel_rfl) (by kernel_rfl) (fun _ _ _ h => h) (Or.inl ⟨by rfl, by (intro w hSw; (try dsimp only at hSw); go_simp; try with_reducible rfl)⟩) hHeld ?_
                            try simp only [Act.put, List.setIfInBounds_toArray, List.set_cons_zero, List.set_cons_succ]
                            refine wpAnyH_take (i := 15) (oi := ⟨some 7, _, _, _, _, _⟩) (v := ?_) rfl (by kernel_rfl) (by kernel_rfl) (by kernel_rfl) (fun _ _ _ h => h) (Or.inl ⟨by rfl, by (intro w hSw; (try dsimp only at hSw); go_simp; try with_reducible rfl)⟩) hHeld ?_
                            try simp only [Act.put, List.setIfInBounds_toArray, List.set_cons_zero, List.set_cons_succ]
                            refine wpAnyH_done (by kernel_rfl) ?_ _
                            try simp only [Exit.inBlock, Exit.then]
                            apply_assumption
                            obtain ⟨p0, p1⟩ := HR9.out.p.cells
                            go_wp2_with (first
                              | (go_at_call 15; ((with_reducible refine (K15.out _ _ _ HR9.out.sm HS9.out).mono ?_); rintro e wa ⟨rfl, hba⟩; have HRa := Lib.hid (HR9.out.later hba); have HSa := Lib.hid (HS9.out.later hba); obtain ⟨z0, _⟩ := HRa.out.was.cells; clear hba))
                              | (go_at_call 15; ((with_reducible refine (K15'.out _ _ _ HRa.out.sv HRa.out.su).mono ?_); rintro e wb ⟨rfl, hbb⟩; have HRb := Lib.hid (HRa.out.later hbb); have HSb := Lib.hid (HSa.out.later hbb); clear hbb)))
                            go_roundw
                            case rel => exact ⟨k + 1, _, _, by omega, by go_num, Lib.hid (HRb.out.inv HSb.out HF9.out HOM.out)⟩
                            case measure => simp [intOf]; omega
                          · exact AllReadyH.nil
                        · exact AllReadyH.nil
                      · exact AllReadyH.nil
                    · exact AllReadyH.nil
                · have hi2 : i < 0 := by omega
                  have K14 := Lib.hid (fun W h => send_any L t s (.slice o L.length c) HL64.out HOK.out.s W h)
                  have K10 := Lib.hid (fun W h => rsend_any L ⟨t, s⟩ (.slice ou L.length cu) HOL.out.1 W h)
                  have HOM := Lib.hid (HOL.out.send ⟨t, s⟩ HOK.out.s)
                  unfold iv at K10
                  have K15 := Lib.hid (fun v u W h1 h2 => is_any (sendL L ⟨t, s⟩) v u (by have := HOM.out.1; omega) HOM.out.2 W h1 h2)
                  have K15' := Lib.hid (fun v u W h1 h2 => is_any L v u HL64.out HOL.out.2 W h1 h2)
                  generalize sendL L ⟨t, s⟩ = M at *
                  try dsimp only at *
                  obtain ⟨w2, hw2⟩ : ∃ w2, w2 = ((wr.alloc (.cells #[.int .u8 (d : Int), .int .u64 (t : Int), .string s, .int .i64 i] 30)).alloc (.cells #[.slice o L.length c] 26)) := ⟨_, rfl⟩
                  rw [← hw2] at HR2
                  go_wp2_with (fail)
                  rw [← hw2]
                  clear hw2 pa pb HP1
                  have HR3 := Lib.hid (show Rd w gp wr.heap.size (.slice o L.length c) (.slice ou L.length cu) (.slice o L.length c) L L ⟨d, t, s, i⟩ w2.drew from HR2.out.drewN 1)
                  have mkS : Hid (∀ v' M' wz, Rd w gp wr.heap.size (.slice o L.length c) (.slice ou L.length cu) v' L M' ⟨d, t, s, i⟩ wz → wz.cell? ⟨wr.heap.size, 1, none⟩ = some (.int .u64 (t : Int)) ∧ wz.cell? ⟨wr.heap.size, 2, none⟩ = some (.string s) ∧ Hid True) := Lib.hid (fun v' M' wz h => ⟨h.a.cells.2.1, h.a.cells.2.2.1, Lib.hid True.intro⟩)
                  refine wp_region_held_drew (S := fun wz => wz.cell? ⟨wr.heap.size, 1, none⟩ = some (.int .u64 (t : Int)) ∧ wz.cell? ⟨wr.heap.size, 2, none⟩ = some (.string s) ∧ Hid True) (by kernel_rfl) (mkS.out _ _ _ HR3.out) (fun hHeld => ?_)
                  clear HR2
                  generalize w2.drew = wc0 at *
                  obtain ⟨p0, p1⟩ := HR3.out.p.cells
                  refine wpAnyH_take (i := 1) (oi := ⟨some 39, _, _, _, _, _⟩) (v := ?_) rfl (by kernel_rfl) (by kernel_rfl) (by kernel_rfl) (fun _ _ _ h => h) (Or.inl ⟨by rfl, by (intro w hSw; (try dsimp only at hSw); go_simp; try with_reducible rfl)⟩) hHeld ?_
                  try simp only [Act.put, List.setIfInBounds_toArray, List.set_cons_zero, List.set_cons_succ]
                  refine wpAnyH_take (i := 2) (oi := ⟨some 40, _, _, _, _, _⟩) (v := ?_) rfl (by kernel_rfl) (by kernel_rfl) (by kernel_rfl) (fun _ _ _ h => h) (Or.inl ⟨by rfl, by (intro w hSw; (try dsimp only at hSw); go_simp; try with_reducible rfl)⟩) hHeld ?_
                  try simp only [Act.put, List.setIfInBounds_toArray, List.set_cons_zero, List.set_cons_succ]
                  refine wpAnyH_take (i := 3) (oi := ⟨some 41, _, _, _, _, _⟩) (v := ?_) rfl (by kernel_rfl) (by kernel_rfl) (by kernel_rfl) (fun _ _ _ h => h) (Or.inl ⟨by rfl, by (intro w hSw; (try dsimp only at hSw); go_simp; try with_reducible rfl)⟩) hHeld ?_
                  try simp only [Act.put, List.setIfInBounds_toArray, List.set_cons_zero, List.set_cons_succ]
                  refine wpAnyH_take (i := 4) (oi := ⟨some 42, _, _, _, _, _⟩) (v := ?_) rfl (by kernel_rfl) (by kernel_rfl) (by kernel_rfl) (fun _ _ _ h => h) (Or.inl ⟨by rfl, by (intro w hSw; (try dsimp only at hSw); go_simp; try with_reducible rfl)⟩) hHeld ?_
                  try simp only [Act.put, List.setIfInBounds_toArray, List.set_cons_zero, List.set_cons_succ]
                  refine wpAnyH_take (i := 6) (oi := ⟨some 44, _, _, _, _, _⟩) (v := ?_) rfl (by kernel_rfl) (by kernel_rfl) (by kernel_rfl) (fun _ _ _ h => h) (Or.inl ⟨by rfl, by (intro w hSw; (try dsimp only at hSw); go_simp; try with_reducible rfl)⟩) hHeld ?_
                  try simp only [Act.put, List.setIfInBounds_toArray, List.set_cons_zero, List.set_cons_succ]
                  refine wpAnyH_take (i := 7) (oi := ⟨some 45, _, _, _, _, _⟩) (v := ?_) rfl (by kernel_rfl) (by kernel_rfl) (by kernel_rfl) (fun _ _ _ h => h) (Or.inl ⟨by rfl, by (intro w hSw; (try dsimp only at hSw); go_simp; try with_reducible rfl)⟩) hHeld ?_
                  try simp only [Act.put, List.setIfInBounds_toArray, List.set_cons_zero, List.set_cons_succ]
                  refine wpAnyH_take (i := 8) (oi := ⟨some 46, _, _, _, _, _⟩) (v := ?_) rfl (by kernel_rfl) (by kernel_rfl) (by kernel_rfl) (fun _ _ _ h => h) (Or.inl ⟨by rfl, by (intro w hSw; (try dsimp only at hSw); go_simp; try with_reducible rfl)⟩) hHeld ?_
                  try simp only [Act.put, List.setIfInBounds_toArray, List.set_cons_zero, List.set_cons_succ]
                  refine wpAnyH_take (i := 9) (oi := ⟨some 47, _, _, _, _, _⟩) (v := ?_) rfl (by kernel_rfl) (by kernel_rfl) (by kernel_rfl) (fun _ _ _ h => h) (Or.inl ⟨by rfl, by (intro w hSw; (try dsimp only at hSw); go_simp; try with_reducible rfl)⟩) hHeld ?_
                  try simp only [Act.put, List.setIfInBounds_toArray, List.set_cons_zero, List.set_cons_succ]
                  refine wpAnyH_take (i := 10) (oi := ⟨some 48, _, _, _, _, _⟩) (v := ?_) rfl (by kernel_rfl) (by kernel_rfl) (by kernel_rfl) (fun _ _ _ h => h) (Or.inl ⟨by rfl, by (intro w hSw; (try dsimp only at hSw); go_simp; try with_reducible rfl)⟩) hHeld ?_
                  try simp only [Act.put, List.setIfInBounds_toArray, List.set_cons_zero, List.set_cons_succ]
                  refine wpAnyH_take (i := 11) (oi := ⟨some 49, _, _, _, _, _⟩) (v := ?_) rfl (by kernel_rfl) (by kernel_rfl) (by kernel_rfl) (fun _ _ _ h => h) (Or.inl ⟨by rfl, by (intro w hSw; (try dsimp only at hSw); go_simp; try with_reducible rfl)⟩) hHeld ?_
                  try simp only [Act.put, List.setIfInBounds_toArray, List.set_cons_zero, List.set_cons_succ]
                  refine wpAnyH_ready (rs := [0]) (by kernel_rfl) (by simp) ?_
                  refine AllReadyH.cons (o := ⟨some 38, _, _, _, _, _⟩) rfl (fun K hK => ?_) ?_
                  · go_simp
                    refine hK.out _ _ (mkS.out _ _ _ HR3.out) (fun hHeld2 => ?_)
                    clear hK K hHeld
                    have hHeld := hHeld2
                    clear hHeld2
                    clear p0 p1
                    try simp only [Act.put, List.setIfInBounds_toArray, List.set_cons_zero, List.set_cons_succ]
                    refine wpAnyH_ready (rs := [5]) (by kernel_rfl) (by simp) ?_
                    refine AllReadyH.cons (o := ⟨some 43, _, _, _, _, _⟩) rfl (fun K hK => ?_) ?_
                    · go_simp
                      refine (K14.out _ HR3.out.sm).mono ?_
                      rintro ze wc1 ⟨⟨o5, n5, c5, rfl, hs5, hf5⟩, hb5⟩
                      try go_simp
                      have HS4 := Lib.hid hs5
                      have HF4 := Lib.hid (show Fr (gp + 1) (.slice o5 n5 c5) from hf5.mono (lt_of_heap HR3.out.p))
                      have HR4 := Lib.hid (HR3.out.later hb5)
                      clear hs5 hf5 hb5
                      refine hK.out _ _ (mkS.out _ _ _ HR4.out) (fun hHeld2 => ?_)
                      clear hK K hHeld
                      have hHeld := hHeld2
                      clear hHeld2
                      try simp only [Act.put, List.setIfInBounds_toArray, List.set_cons_zero, List.set_cons_succ]
                      refine wpAnyH_ready (rs := [12]) (by kernel_rfl) (by simp) ?_
                      refine AllReadyH.cons (o := ⟨some 50, _, _, _, _, _⟩) rfl (fun K hK => ?_) ?_
                      · go_simp
                        refine (K10.out _ HR4.out.su).mono ?_
                        rintro ze wc2 ⟨⟨o9, n9, c9, rfl, hs9, hf9⟩, hb9⟩
                        try go_simp
                        have HS5 := Lib.hid (HS4.out.later hb9)
                        have HSu := Lib.hid hs9
                        have HFu := Lib.hid (show Fr (gp + 1) (.slice o9 n9 c9) from hf9.mono (lt_of_heap HR4.out.p))
                        have HR5 := Lib.hid (HR4.out.later hb9)
                        clear hs9 hf9 hb9
                        refine hK.out _ _ (mkS.out _ _ _ HR5.out) (fun hHeld2 => ?_)
                        clear hK K hHeld
                        have hHeld := hHeld2
                        clear hHeld2
                        try simp only [Act.put, List.setIfInBounds_toArray, List.set_cons_zero, List.set_cons_succ]
                        refine wpAnyH_ready (rs := [13]) (by kernel_rfl) (by simp) ?_
                        refine AllReadyH.cons (o := ⟨none, _, _, _, _, _⟩) rfl (fun K hK => ?_) ?_
                        · obtain ⟨y0, y1⟩ := HR5.out.p.cells
                          go_simp
                          have HR9 := Lib.hid (HR5.out.put HS5.out HF4.out)
                          have HS9 := Lib.hid (HSu.out.awayF HFu.out ⟨gp, 0, none⟩ (Nat.lt_succ_self _) (.slice o5 n5 c5))
                          have HF9 := HFu
                          refine hK.out _ _ (mkS.out _ _ _ HR9.out) (fun hHeld2 => ?_)
                          clear hK K hHeld
                          have hHeld := hHeld2
                          clear hHeld2
                          clear y0 y1
                          try simp only [Act.put, List.setIfInBounds_toArray, List.set_cons_zero, List.set_cons_succ]
                          generalize wc2.setCell ⟨gp, 0, none⟩ (.slice o5 n5 c5) = wc3 at *
                          refine wpAnyH_take (i := 14) (oi := ⟨some 4, _, _, _, _, _⟩) (v := ?_) rfl (by kernel_rfl) (by kernel_rfl) (by kernel_rfl) (fun _ _ _ h => h) (Or.inl ⟨by rfl, by (intro w hSw; (try dsimp only at hSw); go_simp; try with_reducible rfl)⟩) hHeld ?_
                          try simp only [Act.put, List.setIfInBounds_toArray, List.set_cons_zero, List.set_cons_succ]
                          refine wpAnyH_take (i := 15) (oi := ⟨some 7, _, _, _, _, _⟩) (v := ?_) rfl (by kernel_rfl) (by kernel_rfl) (by kernel_rfl) (fun _ _ _ h => h) (Or.inl ⟨by rfl, by (intro w hSw; (try dsimp only at hSw); go_simp; try with_reducible rfl)⟩) hHeld ?_
                          try simp only [Act.put, List.setIfInBounds_toArray, List.set_cons_zero, List.set_cons_succ]
                          refine wpAnyH_done (by kernel_rfl) ?_ _
                          try simp only [Exit.inBlock, Exit.then]
                          apply_assumption
                          obtain ⟨p0, p1⟩ := HR9.out.p.cells
                          go_wp2_with (first
                            | (go_at_call 15; ((with_reducible refine (K15.out _ _ _ HR9.out.sm HS9.out).mono ?_); rintro e wa ⟨rfl, hba⟩; have HRa := Lib.hid (HR9.out.later hba); have HSa := Lib.hid (HS9.out.later hba); obtain ⟨z0, _⟩ := HRa.out.was.cells; clear hba))
                            | (go_at_call 15; ((with_reducible refine (K15'.out _ _ _ HRa.out.sv HRa.out.su).mono ?_); rintro e wb ⟨rfl, hbb⟩; have HRb := Lib.hid (HRa.out.later hbb); have HSb := Lib.hid (HSa.out.later hbb); clear hbb)))
                          go_roundw
                          case rel => exact ⟨k + 1, _, _, by omega, by go_num, Lib.hid (HRb.out.inv HSb.out HF9.out HOM.out)⟩
                          case measure => simp [intOf]; omega
                        · exact AllReadyH.nil
                      · exact AllReadyH.nil
                    · exact AllReadyH.nil
                  · exact AllReadyH.nil

      · go_wp2
        go_ret
        exact ⟨rfl, HI.out.b⟩
  · have q120 : (120 : Int) < (l.length : Int) := by omega
    go_enter Try.func3, Try.ntmps3
    go_wp2_with (first
      | (go_at_call 6; ((with_reducible refine (K6.out _).mono ?_); rintro e w1 ⟨rfl, hb⟩; have HB1 := Lib.hid hb; clear hb)))
    go_ret
    exact ⟨rfl, HB1.out⟩
end Go.Proofs.Ytcoadbagjlcagaa
