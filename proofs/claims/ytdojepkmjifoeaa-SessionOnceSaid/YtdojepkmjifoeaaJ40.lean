/- The law SessionOnce: its loop, and the whole of it. -/
import Derived.Test.YtdojepkmjifoeaaJ39
set_option linter.unusedVariables false
set_option linter.unusedSimpArgs false
namespace Go.Proofs.Ytdojepkmjifoeaa
open Go.RowKit

set_option maxHeartbeats 4000000 in
theorem round4 {w : World} {oa : Option Addr} {ab ao m cap g3 b : Nat} {l : List Ac} {Q0 : Exit → Act → World → Prop} (hl : m = l.length) (hm : m ≤ 40) (HL : Hid (0 < m → oa = some ⟨ab, ao, none⟩ ∧ ab < w.heap.size)) (HA : Hid (AcsIn w ab ao l)) (HBG : Hid (b ≠ g3)) (HG : Hid (w.heap.size ≤ g3 ∧ w.heap.size ≤ b))
    (hexit : ∀ x5 u' wr, Below w.heap.size w wr → Q0 (.exit 0) (fo oa m cap g3 b x5 (.int .i64 (m : Int)) u') wr)
    (hret : ∀ u' wr, Below w.heap.size w wr → Q0 .ret (fo2 oa m cap u') wr) {a : Act} {wr : World} (hI : WI4 oa m cap g3 b w a wr) :
    Code.wp Try.prog body4 (Exit.then (fun a' w'' => WI4 oa m cap g3 b w a' w'' ∧ Wmu4 m a' < Wmu4 m a) Q0) a wr := by
  obtain ⟨u, j, v, n, k, r, rfl, hjm, hk, hv, hn, hr, h0, HN, HM, HB⟩ := hI
  have hmu : Wmu4 m (fo oa m cap g3 b (.int .u64 (n : Int)) (.int .i64 (j : Int)) u) = m - j := by
    show m - (intOf (.int .i64 (j : Int))).toNat = m - j
    simp [intOf]
  rw [hmu]
  by_cases hj : j < m
  · obtain ⟨rfl, hab⟩ := HL.out (by omega)
    have hjl : j < l.length := by omega
    obtain ⟨c0, c1, c2, c3, c4, c5, c6, hok⟩ := HA.out j hjl
    generalize l[j] = q at *
    obtain ⟨ad, aw, av, an, abd, atx, acd⟩ := q
    obtain ⟨k0, k1, k2, k3, k4⟩ := hok
    simp only at *
    rw [← HB.out.cell (p := ⟨ab, ao + j * 7, none⟩) hab] at c0
    rw [← HB.out.cell (p := ⟨ab, ao + j * 7 + 1, none⟩) hab] at c1
    rw [← HB.out.cell (p := ⟨ab, ao + j * 7 + 2, none⟩) hab] at c2
    rw [← HB.out.cell (p := ⟨ab, ao + j * 7 + 3, none⟩) hab] at c3
    rw [← HB.out.cell (p := ⟨ab, ao + j * 7 + 4, none⟩) hab] at c4
    rw [← HB.out.cell (p := ⟨ab, ao + j * 7 + 5, none⟩) hab] at c5
    rw [← HB.out.cell (p := ⟨ab, ao + j * 7 + 6, none⟩) hab] at c6
    have HV : Hid (k ≤ j ∧ v ≤ 18446744073709551615 ∧ n ≤ 18446744073709551615 ∧ r.size ≤ 1000000000 ∧ (n = 0 → r = ⟨#[]⟩)) := Lib.hid ⟨hk, hv, hn, hr, h0⟩
    by_cases hs : abd.size ≤ 3000 ∧ atx.size ≤ 3000
    · obtain ⟨M, hM⟩ : ∃ M, msgV 2 1 abd [av, an % 8] = M := ⟨_, rfl⟩
      have hms : MsOk 2 1 abd [av, an % 8] := ⟨by omega, by omega, by omega, by omega, by intro z hz; simp at hz; omega, by simp⟩
      have e8 : (an : Int) % 8 = ((an % 8 : Nat) : Int) := by omega
      have K7 : Hid (∀ (W : World) (g : Nat), g = W.heap.size → Calls Try.prog 7 #[.int .i64 2, .int .u64 1, .string abd, .slice (some ⟨g, 0, none⟩) 2 2] (W.alloc (.cells #[.int .u64 (av : Int), .int .u64 ((an : Int) % 8)] 22)) fun z w' => z = .returned (.string M) ∧ Below (W.alloc (.cells #[.int .u64 (av : Int), .int .u64 ((an : Int) % 8)] 22)).heap.size (W.alloc (.cells #[.int .u64 (av : Int), .int .u64 ((an : Int) % 8)] 22)) w') := Lib.hid (by
        intro W g hg
        subst hg
        rw [e8, ← hM]
        exact message_any 2 1 abd [av, an % 8] (some ⟨W.heap.size, 0, none⟩) 2 W.heap.size 0 (by omega) (by omega) (W.alloc (.cells #[.int .u64 (av : Int), .int .u64 ((an % 8 : Nat) : Int)] 22)) (fun _ => ⟨rfl, by simp⟩) (ns_new W [av, an % 8] (by intro z hz; simp at hz; omega)))
      by_cases hd : ad % 6 = 3
      · rcases way_any v n r atx hv hn hr (by omega) wr with ⟨C, R, hC, h11, h14⟩ | ⟨ver, nn, _, hnn, hver, hn2, h14, h15⟩
        · by_cases e : C = 11
          · obtain ⟨rfl, hRn⟩ := h11 e
            subst e
            exact once_tt (v2 := 0) (nn := 0) (ver := 0) (bd := ⟨#[]⟩) (M2 := ⟨#[]⟩) (C := 0) (R := ⟨#[]⟩) hj hs.1 hs.2 hd hRn c0 c1 c2 c3 c4 c5 c6 K7 (Lib.hid (fun w => h14 w)) HV hm HBG HG HN HM HB
          · exact once_te (v2 := 0) (nn := 0) (ver := 0) (bd := ⟨#[]⟩) (M2 := ⟨#[]⟩) hj hs.1 hs.2 hd hC e c0 c1 c2 c3 c4 c5 c6 K7 (Lib.hid h14) HV hm HBG HG HN HM HB
        · obtain ⟨v2, M2, g1, g2, g3', h15⟩ := h15 acd k4
          exact once_to (C := 0) (R := ⟨#[]⟩) hj hs.1 hs.2 hd c0 c1 c2 c3 c4 c5 c6 K7 (Lib.hid h14) (Lib.hid h15) g3' (Lib.hid ⟨hn2, g1, g2⟩) (Lib.hid ⟨by omega, k4⟩) HV hm HBG HG HN HM HB
      · have hsz := (ms_size hms).1
        obtain ⟨_, _, _, hmN, hmB⟩ := ms_read hms rfl (fun h => absurd rfl h)
        have hM' : msgV ((2 : Nat) : Int) 1 abd [av, an % 8] = M := hM
        rw [hM'] at hmN hmB hsz
        rcases way_any v n r M hv hn hr (by omega) wr with ⟨C, R, hC, h11, h14⟩ | ⟨ver, nn, hvn, hnn, hver, hn2, h14, h15⟩
        · by_cases e : C = 11
          · obtain ⟨rfl, hRn⟩ := h11 e
            subst e
            exact once_ot (v2 := 0) (nn := 0) (ver := 0) (bd := ⟨#[]⟩) (M2 := ⟨#[]⟩) (C := 0) (R := ⟨#[]⟩) hj hs.1 hs.2 hd hRn c0 c1 c2 c3 c4 c5 c6 K7 (Lib.hid (fun w => h14 w)) HV hm HBG HG HN HM HB
          · exact once_oe (v2 := 0) (nn := 0) (ver := 0) (bd := ⟨#[]⟩) (M2 := ⟨#[]⟩) hj hs.1 hs.2 hd hC e c0 c1 c2 c3 c4 c5 c6 K7 (Lib.hid h14) HV hm HBG HG HN HM HB
        · obtain ⟨v2, M2, g1, g2, g3', h15⟩ := h15 acd k4
          obtain ⟨rfl, rfl⟩ := hvn _ _ hmN
          rw [hmB] at h14 h15
          exact once_oo (C := 0) (R := ⟨#[]⟩) (bd := ⟨#[]⟩) (ver := 0) hj hs.1 hs.2 hd c0 c1 c2 c3 c4 c5 c6 K7 (Lib.hid h14) (Lib.hid h15) g3' (Lib.hid ⟨hn2, g1, g2⟩) (Lib.hid ⟨by omega, k4⟩) (Lib.hid ⟨e8, hnn⟩) HV hm HBG HG HN HM HB
    · exact once_big hj hm hs c0 c1 c2 c3 c4 c5 c6 HB (fun u' wr' hb => hret u' wr' hb)
  · obtain rfl : j = m := by omega
    exact end4 (fun x5 u' => hexit x5 u' wr HB.out)

theorem loop4 {w w0 : World} {oa : Option Addr} {ab ao m cap g3 b : Nat} {l : List Ac} {Q0 : Exit → Act → World → Prop} {a : Act} (ha : a = fo oa m cap g3 b (.int .u64 0) (.int .i64 0) (fun i => a.tmps.getD i undef)) (hl : m = l.length) (hm : m ≤ 40) (HL : Hid (0 < m → oa = some ⟨ab, ao, none⟩ ∧ ab < w.heap.size)) (HA : Hid (AcsIn w ab ao l)) (HBG : Hid (b ≠ g3)) (HG : Hid (w.heap.size ≤ g3 ∧ w.heap.size ≤ b))
    (hexit : ∀ x5 u' wr, Below w.heap.size w wr → Q0 (.exit 0) (fo oa m cap g3 b x5 (.int .i64 (m : Int)) u') wr)
    (hret : ∀ u' wr, Below w.heap.size w wr → Q0 .ret (fo2 oa m cap u') wr)
    (HN : Hid (N9 w0 g3 (.int .u64 1) (.int .u64 0) (.int .u64 0) (.int .u64 0) (.string ⟨#[]⟩) (.bool true) (.int .u64 1) (.int .u64 4) (.int .i64 0))) (HM : Hid (MpR w0 b 0 0 ⟨#[]⟩)) (HB : Hid (Below w.heap.size w w0)) :
    Code.wp Try.prog (Code.loop body4) Q0 a w0 := by
  refine wp_loop (WI4 oa m cap g3 b w) (fun a _ => Wmu4 m a) ?_ (fun a wr hI => round4 hl hm HL HA HBG HG hexit hret hI)
  exact WI4.mk 0 0 0 0 ⟨#[]⟩ ha rfl rfl (by omega) (by omega) (by omega) (by omega) (by simp [ByteArray.size]) (fun _ => rfl) HN HM HB

set_option maxRecDepth 1000000 in
set_option maxHeartbeats 16000000 in
theorem sonce_any (l : List Ac) (oa : Option Addr) (cap ab ao : Nat) (w : World) (hat : 0 < l.length → oa = some ⟨ab, ao, none⟩ ∧ ab < w.heap.size) (hc : AcsIn w ab ao l) : Calls Try.prog 4 #[.slice oa l.length cap] w fun e w' => e = .returned (.bool true) ∧ Below w.heap.size w w' := by
  have K6 := Lib.hid (fun w => awake19_any w)
  have K12 : Hid (∀ w, Calls Try.prog 12 #[.agg #[.int .u64 1, .int .u64 4, .int .i64 0], .int .u64 0] w fun r w' => r = .returned (.agg #[.int .u64 0, .int .u64 0, .int .u64 0, .int .u64 0, .string ⟨#[]⟩, .bool false, .int .u64 1, .int .u64 4, .int .i64 0]) ∧ Below w.heap.size w w') := Lib.hid (fun w => new_any 1 4 0 0 w)
  obtain ⟨M, hM⟩ : ∃ M, msgV 1 1 ⟨#[]⟩ [0] = M := ⟨_, rfl⟩
  have K13 : Hid (∀ w, Calls Try.prog 13 #[.agg #[.int .u64 0, .int .u64 0, .int .u64 0, .int .u64 0, .string ⟨#[]⟩, .bool false, .int .u64 1, .int .u64 4, .int .i64 0], .int .u64 0] w fun z w' => z = .returned (.tuple #[.agg #[.int .u64 1, .int .u64 0, .int .u64 0, .int .u64 0, .string ⟨#[]⟩, .bool true, .int .u64 1, .int .u64 4, .int .i64 0], .string M]) ∧ Below w.heap.size w w') := Lib.hid (fun w => tick_ok ⟨0, 0, 0, 0, ⟨#[]⟩, false, 1, 4, 0⟩ 0 ⟨by simp only; omega, by simp only; omega, by simp only; omega, by simp only; omega, by simp [ByteArray.size], by simp only; omega, by simp only; omega⟩ rfl (Nat.lt_irrefl 0) M hM w)
  clear hM
  have HL : Hid (0 < l.length → oa = some ⟨ab, ao, none⟩ ∧ ab < w.heap.size) := Lib.hid hat
  have HA := Lib.hid hc
  clear hat hc
  obtain ⟨m, hm⟩ : ∃ m, m = l.length := ⟨_, rfl⟩
  rw [← hm] at HL ⊢
  by_cases hbig : 40 < m
  · clear hm
    go_enter Try.func4, Try.ntmps4
    go_wp2_with (first
      | (go_at_call 6; ((with_reducible refine (K6.out _).mono ?_); rintro z w1 ⟨rfl, hb1⟩; have HB1 := Lib.hid hb1; clear hb1)))
    go_ret
    exact ⟨rfl, HB1.out⟩
  · have HE := Lib.hid hm
    clear hm
    have hm40 : m ≤ 40 := by omega
    go_enter Try.func4, Try.ntmps4
    go_upto_region 6 with (first
      | (go_at_call 6; ((with_reducible refine (K6.out _).mono ?_); rintro z w1 ⟨rfl, hb1⟩; have HB1 := Lib.hid hb1; clear hb1))
      | (go_at_call 12; ((with_reducible refine (K12.out _).mono ?_); rintro z w2 ⟨rfl, hb2⟩; have HB2 := Lib.hid (HB1.out.trans (hb2.mono HB1.out.size)); clear hb2))
      | (go_at_call 13; ((with_reducible refine (K13.out _).mono ?_); rintro z w3 ⟨rfl, hb3⟩; have HB3 := Lib.hid (HB2.out.trans (hb3.mono HB2.out.size)); clear hb3)))
    have HN4 : Hid (N9 (w3.alloc (.cells #[.int .u64 1, .int .u64 0, .int .u64 0, .int .u64 0, .string ⟨#[]⟩, .bool true, .int .u64 1, .int .u64 4, .int .i64 0] 39)) w3.heap.size (.int .u64 1) (.int .u64 0) (.int .u64 0) (.int .u64 0) (.string ⟨#[]⟩) (.bool true) (.int .u64 1) (.int .u64 4) (.int .i64 0)) := Lib.hid (N9.new _ _ _ _ _ _ _ _ _ _)
    have HB4 := Lib.hid (HB3.out.trans ((alloc_below w3 (.cells #[.int .u64 1, .int .u64 0, .int .u64 0, .int .u64 0, .string ⟨#[]⟩, .bool true, .int .u64 1, .int .u64 4, .int .i64 0] 39)).mono HB3.out.size))
    have HG := Lib.hid HB3.out.size
    clear HB1 HB2 K6 K12 K13
    generalize w3.alloc (.cells #[.int .u64 1, .int .u64 0, .int .u64 0, .int .u64 0, .string ⟨#[]⟩, .bool true, .int .u64 1, .int .u64 4, .int .i64 0] 39) = w4 at *
    generalize w3.heap.size = g3 at *
    have HM5 : Hid (MpR (w4.alloc (.map #[] 0)) w4.heap.size 0 0 ⟨#[]⟩) := Lib.hid (MpR.made w4)
    have HN5 := Lib.hid (HN4.out.later (alloc_below w4 (.map #[] 0)))
    have HB5 := Lib.hid (HB4.out.trans ((alloc_below w4 (.map #[] 0)).mono HB4.out.size))
    have HG5 : Hid (w.heap.size ≤ g3 ∧ w.heap.size ≤ w4.heap.size) := Lib.hid ⟨HG.out, HB4.out.size⟩
    have HBG : Hid (w4.heap.size ≠ g3) := Lib.hid (by have := HN4.out.lt; omega)
    clear HN4 HB4 HG HB3
    have hmm := @run_makeMap Try.prog
    go_upto_region 8 with fail
    generalize w4.alloc (.map #[] 0) = w5 at *
    generalize w4.heap.size = b at *
    go_wp2
    refine loop4 (ab := ab) (ao := ao) (l := l) rfl HE.out hm40 HL HA HBG HG5 (fun x5 u' wr hb => ?_) (fun u' wr hb => ?_) HN5 HM5 HB5
    · unfold fo
      go_wp2
      go_ret
      exact ⟨rfl, hb⟩
    · unfold fo2
      go_ret
      exact ⟨rfl, hb⟩
end Go.Proofs.Ytdojepkmjifoeaa
