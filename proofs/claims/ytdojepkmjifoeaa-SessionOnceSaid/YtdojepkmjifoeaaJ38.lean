/- The law SessionOnce: a round.; The law SessionOnce: a round.; The law SessionOnce: a round. -/
import Derived.Test.YtdojepkmjifoeaaJ37
set_option linter.unusedVariables false
set_option linter.unusedSimpArgs false
namespace Go.Proofs.Ytdojepkmjifoeaa
open Go.RowKit

set_option maxRecDepth 1000000 in
set_option maxHeartbeats 64000000 in
theorem once_ot {w wr : World} {ab ao m cap g3 b k j v v2 n nn ver ad aw av an acd C : Nat} {r abd atx bd M M2 R : ByteArray} {u : Nat → Value} {Q0 : Exit → Act → World → Prop}
    (hj : j < m) (hab : abd.size ≤ 3000) (hat : atx.size ≤ 3000) (hd : ad % 6 ≠ 3) (hRn : r ≠ ⟨#[]⟩)
    (c0 : wr.cell? ⟨ab, ao + j * 7, none⟩ = some (.int .u8 (ad : Int))) (c1 : wr.cell? ⟨ab, ao + j * 7 + 1, none⟩ = some (.int .u64 (aw : Int))) (c2 : wr.cell? ⟨ab, ao + j * 7 + 2, none⟩ = some (.int .u64 (av : Int))) (c3 : wr.cell? ⟨ab, ao + j * 7 + 3, none⟩ = some (.int .u64 (an : Int))) (c4 : wr.cell? ⟨ab, ao + j * 7 + 4, none⟩ = some (.string abd)) (c5 : wr.cell? ⟨ab, ao + j * 7 + 5, none⟩ = some (.string atx)) (c6 : wr.cell? ⟨ab, ao + j * 7 + 6, none⟩ = some (.int .u8 (acd : Int)))
    (K7 : Hid (∀ (W : World) (g : Nat), g = W.heap.size → Calls Try.prog 7 #[.int .i64 2, .int .u64 1, .string abd, .slice (some ⟨g, 0, none⟩) 2 2] (W.alloc (.cells #[.int .u64 (av : Int), .int .u64 ((an : Int) % 8)] 22)) fun z w' => z = .returned (.string M) ∧ Below (W.alloc (.cells #[.int .u64 (av : Int), .int .u64 ((an : Int) % 8)] 22)).heap.size (W.alloc (.cells #[.int .u64 (av : Int), .int .u64 ((an : Int) % 8)] 22)) w'))
    (K14 : Hid (∀ w, Calls Try.prog 14 #[.agg #[.int .u64 1, .int .u64 (v : Int), .int .u64 (n : Int), .int .u64 0, .string r, .bool true, .int .u64 1, .int .u64 4, .int .i64 0], .string M] w fun z w' => z = .returned (.tuple #[.agg #[.int .u64 1, .int .u64 (v : Int), .int .u64 (n : Int), .int .u64 0, .string r, .bool true, .int .u64 1, .int .u64 4, .int .i64 0], .agg #[.int .u64 0, .int .u64 0, .string ⟨#[]⟩], .string r, .int .i64 11]) ∧ Below w.heap.size w w'))
    (HV : Hid (k ≤ j ∧ v ≤ 18446744073709551615 ∧ n ≤ 18446744073709551615 ∧ r.size ≤ 1000000000 ∧ (n = 0 → r = ⟨#[]⟩))) (hm : m ≤ 40) (HBG : Hid (b ≠ g3)) (HG : Hid (w.heap.size ≤ g3 ∧ w.heap.size ≤ b))
    (HN : Hid (N9 wr g3 (.int .u64 1) (.int .u64 (v : Int)) (.int .u64 (n : Int)) (.int .u64 0) (.string r) (.bool true) (.int .u64 1) (.int .u64 4) (.int .i64 0))) (HM : Hid (MpR wr b k n r)) (HB : Hid (Below w.heap.size w wr)) :
    Code.wp Try.prog body4 (Exit.then (fun a' w'' => WI4 (some ⟨ab, ao, none⟩) m cap g3 b w a' w'' ∧ Wmu4 m a' < m - j) Q0) (fo (some ⟨ab, ao, none⟩) m cap g3 b (.int .u64 (n : Int)) (.int .i64 (j : Int)) u) wr := by
  conv => arg 2; whnf
  unfold fo
  have q1 : (j : Int) < (m : Int) := by omega
  have q2 : decide ((3000 : Int) < max (abd.size : Int) (atx.size : Int)) = false := by rw [decide_eq_false_iff_not]; omega
  have i1 : ao + j * 7 + 0 = ao + j * 7 := by omega
  go_upto_region 13 with fail
  have HA2 : Hid ((wr.alloc (.cells #[.int .u8 (ad : Int), .int .u64 (aw : Int), .int .u64 (av : Int), .int .u64 (an : Int), .string abd, .string atx, .int .u8 (acd : Int)] 45)).heap[wr.heap.size]? = some (.cells #[.int .u8 (ad : Int), .int .u64 (aw : Int), .int .u64 (av : Int), .int .u64 (an : Int), .string abd, .string atx, .int .u8 (acd : Int)] 45 (0, 0))) := Lib.hid (heap_alloc_new wr _)
  have HN2 := Lib.hid (N9.later HN.out (alloc_below wr (.cells #[.int .u8 (ad : Int), .int .u64 (aw : Int), .int .u64 (av : Int), .int .u64 (an : Int), .string abd, .string atx, .int .u8 (acd : Int)] 45)))
  have HM2 := Lib.hid (HM.out.later (alloc_below wr (.cells #[.int .u8 (ad : Int), .int .u64 (aw : Int), .int .u64 (av : Int), .int .u64 (an : Int), .string abd, .string atx, .int .u8 (acd : Int)] 45)))
  have HB2 := Lib.hid (HB.out.trans ((alloc_below wr (.cells #[.int .u8 (ad : Int), .int .u64 (aw : Int), .int .u64 (av : Int), .int .u64 (an : Int), .string abd, .string atx, .int .u8 (acd : Int)] 45)).mono HB.out.size))
  generalize wr.alloc (.cells #[.int .u8 (ad : Int), .int .u64 (aw : Int), .int .u64 (av : Int), .int .u64 (an : Int), .string abd, .string atx, .int .u8 (acd : Int)] 45) = w2 at *
  generalize wr.heap.size = gX at *
  clear c0 c1 c2 c3 c4 c5 c6 HN HM HB i1
  obtain ⟨k0, k1, k2, k3, k4, k5, k6⟩ := seven HA2.out
  obtain ⟨⟨d0, d1, d2, d3, d4, d5, d6, d7, d8⟩, _⟩ := nine HN2.out
  go_upto_region 14 with (first
    | (go_at_call 7; ((with_reducible refine (K7.out _ _ rfl).mono ?_); rintro z w3 ⟨rfl, hb3'⟩; have hb3 := Bk.bt hb3'; have HA3 := Lib.hid ((hb3.block _ (lt_of_heap HA2.out)).trans HA2.out); have HN3 := Lib.hid (N9.later HN2.out hb3); have HM3 := Lib.hid (HM2.out.later hb3); have HB3 := Lib.hid (HB2.out.trans (hb3.mono HB2.out.size)); clear k0 k1 k2 k3 k4 k5 k6; clear d0 d1 d2 d3 d4 d5 d6 d7 d8; clear hb3 hb3'; obtain ⟨k0, k1, k2, k3, k4, k5, k6⟩ := seven HA3.out; obtain ⟨⟨d0, d1, d2, d3, d4, d5, d6, d7, d8⟩, _⟩ := nine HN3.out)))
  clear HA2 HN2 HM2 HB2 K7
  obtain ⟨dm, hdm⟩ : ∃ dm, dm = ad % 6 := ⟨_, rfl⟩
  have e6 : (ad : Int) % 6 = (dm : Int) := by omega
  have q3 : ((dm : Int) == 3) = false := by rw [beq_eq_false_iff_ne]; omega
  clear hdm
  go_upto_region 16 with fail
  go_upto_region 17 with (first
    | (go_at_call 14; ((with_reducible refine (K14.out _).mono ?_); rintro z w4 ⟨rfl, hb4⟩; have HW4 := Lib.hid hb4; clear d0 d1 d2 d3 d4 d5 d6 d7 d8 k0 k1 k2 k3 k4 k5 k6; clear hb4)))
  have hba : Below w4.heap.size w4 ((w4.alloc (.cells #[.int .u64 1, .int .u64 (v : Int), .int .u64 (n : Int), .int .u64 0, .string r, .bool true, .int .u64 1, .int .u64 4, .int .i64 0] 39)).alloc (.cells #[.int .u64 0, .int .u64 0, .string ⟨#[]⟩] 47)) := (alloc_below w4 _).trans ((alloc_below _ _).mono (alloc_below w4 _).size)
  have HN5 : Hid (N9 ((w4.alloc (.cells #[.int .u64 1, .int .u64 (v : Int), .int .u64 (n : Int), .int .u64 0, .string r, .bool true, .int .u64 1, .int .u64 4, .int .i64 0] 39)).alloc (.cells #[.int .u64 0, .int .u64 0, .string ⟨#[]⟩] 47)) w4.heap.size (.int .u64 1) (.int .u64 (v : Int)) (.int .u64 (n : Int)) (.int .u64 0) (.string r) (.bool true) (.int .u64 1) (.int .u64 4) (.int .i64 0)) := Lib.hid ((N9.new w4 (.int .u64 1) (.int .u64 (v : Int)) (.int .u64 (n : Int)) (.int .u64 0) (.string r) (.bool true) (.int .u64 1) (.int .u64 4) (.int .i64 0)).later (alloc_below _ _))
  have HO5 : Hid (((w4.alloc (.cells #[.int .u64 1, .int .u64 (v : Int), .int .u64 (n : Int), .int .u64 0, .string r, .bool true, .int .u64 1, .int .u64 4, .int .i64 0] 39)).alloc (.cells #[.int .u64 0, .int .u64 0, .string ⟨#[]⟩] 47)).heap[w4.heap.size + 1]? = some (.cells #[.int .u64 0, .int .u64 0, .string ⟨#[]⟩] 47 (0, 0))) := Lib.hid (by
    have h := heap_alloc_new (w4.alloc (.cells #[.int .u64 1, .int .u64 (v : Int), .int .u64 (n : Int), .int .u64 0, .string r, .bool true, .int .u64 1, .int .u64 4, .int .i64 0] 39)) (.cells #[.int .u64 0, .int .u64 0, .string ⟨#[]⟩] 47)
    have e : (w4.alloc (.cells #[.int .u64 1, .int .u64 (v : Int), .int .u64 (n : Int), .int .u64 0, .string r, .bool true, .int .u64 1, .int .u64 4, .int .i64 0] 39)).heap.size = w4.heap.size + 1 := by simp
    rw [e] at h; exact h)
  have HS5 := Lib.hid (N9.later (N9.later HN3.out HW4.out) hba)
  have HA5 := Lib.hid ((hba.block _ (lt_of_heap ((HW4.out.block _ (lt_of_heap HA3.out)).trans HA3.out))).trans ((HW4.out.block _ (lt_of_heap HA3.out)).trans HA3.out))
  have HM5 := Lib.hid ((HM3.out.later HW4.out).later hba)
  have HB5 := Lib.hid ((HB3.out.trans (HW4.out.mono HB3.out.size)).trans (hba.mono (HB3.out.trans (HW4.out.mono HB3.out.size)).size))
  have HGN : Hid (w.heap.size ≤ w4.heap.size ∧ g3 < w4.heap.size ∧ b < w4.heap.size) := Lib.hid ⟨(HB3.out.trans (HW4.out.mono HB3.out.size)).size, (N9.later HN3.out HW4.out).lt, (HM3.out.later HW4.out).lt⟩
  clear hba HW4 HA3 HN3 HM3 HB3 K14
  generalize ((w4.alloc (.cells #[.int .u64 1, .int .u64 (v : Int), .int .u64 (n : Int), .int .u64 0, .string r, .bool true, .int .u64 1, .int .u64 4, .int .i64 0] 39)).alloc (.cells #[.int .u64 0, .int .u64 0, .string ⟨#[]⟩] 47)) = w5 at *
  generalize w4.heap.size = gN at *
  obtain ⟨⟨c0, c1, c2, c3, c4, c5, c6, c7, c8⟩, _⟩ := nine HN5.out
  obtain ⟨⟨d0, d1, d2, d3, d4, d5, d6, d7, d8⟩, h0, h1, h2, h3, h4, h5, h6, h7, h8⟩ := nine HS5.out
  obtain ⟨⟨m0, m1, m2⟩, _⟩ := three HO5.out
  obtain ⟨k0, k1, k2, k3, k4, k5, k6⟩ := seven HA5.out
  have hlk := HM5.out.look (fun h => hRn (HV.out.2.2.2.2 h)) HV.out.2.2.1
  clear hRn
  go_upto_region 20 with fail
  go_upto_region 27 with fail
  go_upto_region 29 with fail
  go_wp2
  refine ⟨WI4.mk (j + 1) v n k r rfl rfl (by first | rfl | go_num) (by omega) (by have := HV.out; omega) HV.out.2.1 HV.out.2.2.1 HV.out.2.2.2.1 HV.out.2.2.2.2 (Lib.hid (N9.put HS5.out (.int .u64 1) (.int .u64 (v : Int)) (.int .u64 (n : Int)) (.int .u64 0) (.string r) (.bool true) (.int .u64 1) (.int .u64 4) (.int .i64 0))) (Lib.hid (HM5.out.block (put_other (w := w5) (g := g3) (q := b) HBG.out (.int .u64 1) (.int .u64 (v : Int)) (.int .u64 (n : Int)) (.int .u64 0) (.string r) (.bool true) (.int .u64 1) (.int .u64 4) (.int .i64 0)))) (Lib.hid (set9 HG.out.1 HB5.out (.int .u64 1) (.int .u64 (v : Int)) (.int .u64 (n : Int)) (.int .u64 0) (.string r) (.bool true) (.int .u64 1) (.int .u64 4) (.int .i64 0))), ?_⟩
  show m - (intOf (.int .i64 ((j : Int) + 1))).toNat < m - j
  simp [intOf]; omega
end Go.Proofs.Ytdojepkmjifoeaa

namespace Go.Proofs.Ytdojepkmjifoeaa
open Go.RowKit

set_option maxRecDepth 1000000 in
set_option maxHeartbeats 64000000 in
theorem once_oo {w wr : World} {ab ao m cap g3 b k j v v2 n nn ver ad aw av an acd C : Nat} {r abd atx bd M M2 R : ByteArray} {u : Nat → Value} {Q0 : Exit → Act → World → Prop}
    (hj : j < m) (hab : abd.size ≤ 3000) (hat : atx.size ≤ 3000) (hd : ad % 6 ≠ 3)
    (c0 : wr.cell? ⟨ab, ao + j * 7, none⟩ = some (.int .u8 (ad : Int))) (c1 : wr.cell? ⟨ab, ao + j * 7 + 1, none⟩ = some (.int .u64 (aw : Int))) (c2 : wr.cell? ⟨ab, ao + j * 7 + 2, none⟩ = some (.int .u64 (av : Int))) (c3 : wr.cell? ⟨ab, ao + j * 7 + 3, none⟩ = some (.int .u64 (an : Int))) (c4 : wr.cell? ⟨ab, ao + j * 7 + 4, none⟩ = some (.string abd)) (c5 : wr.cell? ⟨ab, ao + j * 7 + 5, none⟩ = some (.string atx)) (c6 : wr.cell? ⟨ab, ao + j * 7 + 6, none⟩ = some (.int .u8 (acd : Int)))
    (K7 : Hid (∀ (W : World) (g : Nat), g = W.heap.size → Calls Try.prog 7 #[.int .i64 2, .int .u64 1, .string abd, .slice (some ⟨g, 0, none⟩) 2 2] (W.alloc (.cells #[.int .u64 (av : Int), .int .u64 ((an : Int) % 8)] 22)) fun z w' => z = .returned (.string M) ∧ Below (W.alloc (.cells #[.int .u64 (av : Int), .int .u64 ((an : Int) % 8)] 22)).heap.size (W.alloc (.cells #[.int .u64 (av : Int), .int .u64 ((an : Int) % 8)] 22)) w'))
    (K14 : Hid (∀ w, Calls Try.prog 14 #[.agg #[.int .u64 1, .int .u64 (v : Int), .int .u64 (n : Int), .int .u64 0, .string r, .bool true, .int .u64 1, .int .u64 4, .int .i64 0], .string M] w fun z w' => z = .returned (.tuple #[.agg #[.int .u64 1, .int .u64 (v : Int), .int .u64 (nn : Int), .int .u64 0, .string ⟨#[]⟩, .bool true, .int .u64 1, .int .u64 4, .int .i64 0], .agg #[.int .u64 (av : Int), .int .u64 (nn : Int), .string abd], .string ⟨#[]⟩, .int .i64 0]) ∧ Below w.heap.size w w')) (K15 : Hid (∀ w, Calls Try.prog 15 #[.agg #[.int .u64 1, .int .u64 (v : Int), .int .u64 (nn : Int), .int .u64 0, .string ⟨#[]⟩, .bool true, .int .u64 1, .int .u64 4, .int .i64 0], .agg #[.int .u64 (av : Int), .int .u64 (nn : Int), .string abd], .int .i64 (acd : Int)] w fun z w' => z = .returned (.tuple #[.agg #[.int .u64 1, .int .u64 (v2 : Int), .int .u64 (nn : Int), .int .u64 0, .string M2, .bool true, .int .u64 1, .int .u64 4, .int .i64 0], .string M2]) ∧ Below w.heap.size w w')) (hM2e : M2.toList.isEmpty = false) (HNB : Hid (nn ≤ 18446744073709551615 ∧ v2 ≤ 18446744073709551615 ∧ M2.size ≤ 1000000000)) (HNZ : Hid (nn ≠ 0 ∧ acd ≤ 255)) (HNN : Hid ((an : Int) % 8 = (nn : Int) ∧ n < nn))
    (HV : Hid (k ≤ j ∧ v ≤ 18446744073709551615 ∧ n ≤ 18446744073709551615 ∧ r.size ≤ 1000000000 ∧ (n = 0 → r = ⟨#[]⟩))) (hm : m ≤ 40) (HBG : Hid (b ≠ g3)) (HG : Hid (w.heap.size ≤ g3 ∧ w.heap.size ≤ b))
    (HN : Hid (N9 wr g3 (.int .u64 1) (.int .u64 (v : Int)) (.int .u64 (n : Int)) (.int .u64 0) (.string r) (.bool true) (.int .u64 1) (.int .u64 4) (.int .i64 0))) (HM : Hid (MpR wr b k n r)) (HB : Hid (Below w.heap.size w wr)) :
    Code.wp Try.prog body4 (Exit.then (fun a' w'' => WI4 (some ⟨ab, ao, none⟩) m cap g3 b w a' w'' ∧ Wmu4 m a' < m - j) Q0) (fo (some ⟨ab, ao, none⟩) m cap g3 b (.int .u64 (n : Int)) (.int .i64 (j : Int)) u) wr := by
  conv => arg 2; whnf
  unfold fo
  have q1 : (j : Int) < (m : Int) := by omega
  have q2 : decide ((3000 : Int) < max (abd.size : Int) (atx.size : Int)) = false := by rw [decide_eq_false_iff_not]; omega
  have i1 : ao + j * 7 + 0 = ao + j * 7 := by omega
  go_upto_region 13 with fail
  have HA2 : Hid ((wr.alloc (.cells #[.int .u8 (ad : Int), .int .u64 (aw : Int), .int .u64 (av : Int), .int .u64 (an : Int), .string abd, .string atx, .int .u8 (acd : Int)] 45)).heap[wr.heap.size]? = some (.cells #[.int .u8 (ad : Int), .int .u64 (aw : Int), .int .u64 (av : Int), .int .u64 (an : Int), .string abd, .string atx, .int .u8 (acd : Int)] 45 (0, 0))) := Lib.hid (heap_alloc_new wr _)
  have HN2 := Lib.hid (N9.later HN.out (alloc_below wr (.cells #[.int .u8 (ad : Int), .int .u64 (aw : Int), .int .u64 (av : Int), .int .u64 (an : Int), .string abd, .string atx, .int .u8 (acd : Int)] 45)))
  have HM2 := Lib.hid (HM.out.later (alloc_below wr (.cells #[.int .u8 (ad : Int), .int .u64 (aw : Int), .int .u64 (av : Int), .int .u64 (an : Int), .string abd, .string atx, .int .u8 (acd : Int)] 45)))
  have HB2 := Lib.hid (HB.out.trans ((alloc_below wr (.cells #[.int .u8 (ad : Int), .int .u64 (aw : Int), .int .u64 (av : Int), .int .u64 (an : Int), .string abd, .string atx, .int .u8 (acd : Int)] 45)).mono HB.out.size))
  generalize wr.alloc (.cells #[.int .u8 (ad : Int), .int .u64 (aw : Int), .int .u64 (av : Int), .int .u64 (an : Int), .string abd, .string atx, .int .u8 (acd : Int)] 45) = w2 at *
  generalize wr.heap.size = gX at *
  clear c0 c1 c2 c3 c4 c5 c6 HN HM HB i1
  obtain ⟨k0, k1, k2, k3, k4, k5, k6⟩ := seven HA2.out
  obtain ⟨⟨d0, d1, d2, d3, d4, d5, d6, d7, d8⟩, _⟩ := nine HN2.out
  go_upto_region 14 with (first
    | (go_at_call 7; ((with_reducible refine (K7.out _ _ rfl).mono ?_); rintro z w3 ⟨rfl, hb3'⟩; have hb3 := Bk.bt hb3'; have HA3 := Lib.hid ((hb3.block _ (lt_of_heap HA2.out)).trans HA2.out); have HN3 := Lib.hid (N9.later HN2.out hb3); have HM3 := Lib.hid (HM2.out.later hb3); have HB3 := Lib.hid (HB2.out.trans (hb3.mono HB2.out.size)); clear k0 k1 k2 k3 k4 k5 k6; clear d0 d1 d2 d3 d4 d5 d6 d7 d8; clear hb3 hb3'; obtain ⟨k0, k1, k2, k3, k4, k5, k6⟩ := seven HA3.out; obtain ⟨⟨d0, d1, d2, d3, d4, d5, d6, d7, d8⟩, _⟩ := nine HN3.out)))
  clear HA2 HN2 HM2 HB2 K7
  obtain ⟨dm, hdm⟩ : ∃ dm, dm = ad % 6 := ⟨_, rfl⟩
  have e6 : (ad : Int) % 6 = (dm : Int) := by omega
  have q3 : ((dm : Int) == 3) = false := by rw [beq_eq_false_iff_ne]; omega
  clear hdm
  go_upto_region 16 with fail
  go_upto_region 17 with (first
    | (go_at_call 14; ((with_reducible refine (K14.out _).mono ?_); rintro z w4 ⟨rfl, hb4⟩; have HW4 := Lib.hid hb4; clear d0 d1 d2 d3 d4 d5 d6 d7 d8 k0 k1 k2 k3 k4 k5 k6; clear hb4)))
  have hba : Below w4.heap.size w4 ((w4.alloc (.cells #[.int .u64 1, .int .u64 (v : Int), .int .u64 (nn : Int), .int .u64 0, .string ⟨#[]⟩, .bool true, .int .u64 1, .int .u64 4, .int .i64 0] 39)).alloc (.cells #[.int .u64 (av : Int), .int .u64 (nn : Int), .string abd] 47)) := (alloc_below w4 _).trans ((alloc_below _ _).mono (alloc_below w4 _).size)
  have HN5 : Hid (N9 ((w4.alloc (.cells #[.int .u64 1, .int .u64 (v : Int), .int .u64 (nn : Int), .int .u64 0, .string ⟨#[]⟩, .bool true, .int .u64 1, .int .u64 4, .int .i64 0] 39)).alloc (.cells #[.int .u64 (av : Int), .int .u64 (nn : Int), .string abd] 47)) w4.heap.size (.int .u64 1) (.int .u64 (v : Int)) (.int .u64 (nn : Int)) (.int .u64 0) (.string ⟨#[]⟩) (.bool true) (.int .u64 1) (.int .u64 4) (.int .i64 0)) := Lib.hid ((N9.new w4 (.int .u64 1) (.int .u64 (v : Int)) (.int .u64 (nn : Int)) (.int .u64 0) (.string ⟨#[]⟩) (.bool true) (.int .u64 1) (.int .u64 4) (.int .i64 0)).later (alloc_below _ _))
  have HO5 : Hid (((w4.alloc (.cells #[.int .u64 1, .int .u64 (v : Int), .int .u64 (nn : Int), .int .u64 0, .string ⟨#[]⟩, .bool true, .int .u64 1, .int .u64 4, .int .i64 0] 39)).alloc (.cells #[.int .u64 (av : Int), .int .u64 (nn : Int), .string abd] 47)).heap[w4.heap.size + 1]? = some (.cells #[.int .u64 (av : Int), .int .u64 (nn : Int), .string abd] 47 (0, 0))) := Lib.hid (by
    have h := heap_alloc_new (w4.alloc (.cells #[.int .u64 1, .int .u64 (v : Int), .int .u64 (nn : Int), .int .u64 0, .string ⟨#[]⟩, .bool true, .int .u64 1, .int .u64 4, .int .i64 0] 39)) (.cells #[.int .u64 (av : Int), .int .u64 (nn : Int), .string abd] 47)
    have e : (w4.alloc (.cells #[.int .u64 1, .int .u64 (v : Int), .int .u64 (nn : Int), .int .u64 0, .string ⟨#[]⟩, .bool true, .int .u64 1, .int .u64 4, .int .i64 0] 39)).heap.size = w4.heap.size + 1 := by simp
    rw [e] at h; exact h)
  have HS5 := Lib.hid (N9.later (N9.later HN3.out HW4.out) hba)
  have HA5 := Lib.hid ((hba.block _ (lt_of_heap ((HW4.out.block _ (lt_of_heap HA3.out)).trans HA3.out))).trans ((HW4.out.block _ (lt_of_heap HA3.out)).trans HA3.out))
  have HM5 := Lib.hid ((HM3.out.later HW4.out).later hba)
  have HB5 := Lib.hid ((HB3.out.trans (HW4.out.mono HB3.out.size)).trans (hba.mono (HB3.out.trans (HW4.out.mono HB3.out.size)).size))
  have HGN : Hid (w.heap.size ≤ w4.heap.size ∧ g3 < w4.heap.size ∧ b < w4.heap.size) := Lib.hid ⟨(HB3.out.trans (HW4.out.mono HB3.out.size)).size, (N9.later HN3.out HW4.out).lt, (HM3.out.later HW4.out).lt⟩
  clear hba HW4 HA3 HN3 HM3 HB3 K14
  generalize ((w4.alloc (.cells #[.int .u64 1, .int .u64 (v : Int), .int .u64 (nn : Int), .int .u64 0, .string ⟨#[]⟩, .bool true, .int .u64 1, .int .u64 4, .int .i64 0] 39)).alloc (.cells #[.int .u64 (av : Int), .int .u64 (nn : Int), .string abd] 47)) = w5 at *
  generalize w4.heap.size = gN at *
  obtain ⟨⟨c0, c1, c2, c3, c4, c5, c6, c7, c8⟩, _⟩ := nine HN5.out
  obtain ⟨⟨d0, d1, d2, d3, d4, d5, d6, d7, d8⟩, h0, h1, h2, h3, h4, h5, h6, h7, h8⟩ := nine HS5.out
  obtain ⟨⟨m0, m1, m2⟩, _⟩ := three HO5.out
  obtain ⟨k0, k1, k2, k3, k4, k5, k6⟩ := seven HA5.out
  have s1 := hM2e
  have s2 : wrap64 (acd : Int) = (acd : Int) := IntWalk.wrap64_in _ (by have := HNZ.out; omega)
  have hnn := HNN.out.1
  have u1 : decide (nn ≤ n) = false := by rw [decide_eq_false_iff_not]; have := HNN.out.2; omega
  have u2 : decide ((nn : Int) ≤ (n : Int)) = false := by rw [decide_eq_false_iff_not]; have := HNN.out.2; omega
  go_upto_region 18 with fail
  go_upto_region 20 with fail
  go_upto_region 21 with fail
  go_upto_region 23 with fail
  go_upto_region 24 with (first
    | (go_at_call 15; ((with_reducible refine (K15.out _).mono ?_); rintro z w6 ⟨rfl, hb6⟩; have HW6 := Lib.hid hb6; clear c0 c1 c2 c3 c4 c5 c6 c7 c8; obtain ⟨⟨c0, c1, c2, c3, c4, c5, c6, c7, c8⟩, f0, f1, f2, f3, f4, f5, f6, f7, f8⟩ := nine (N9.later HN5.out hb6); clear hb6)))
  have HN7 := Lib.hid (N9.put (N9.later HN5.out HW6.out) (.int .u64 1) (.int .u64 (v2 : Int)) (.int .u64 (nn : Int)) (.int .u64 0) (.string M2) (.bool true) (.int .u64 1) (.int .u64 4) (.int .i64 0))
  have HM7 := Lib.hid ((HM5.out.later HW6.out).block (put_other (w := w6) (g := gN) (q := b) (by have := HGN.out; omega) (.int .u64 1) (.int .u64 (v2 : Int)) (.int .u64 (nn : Int)) (.int .u64 0) (.string M2) (.bool true) (.int .u64 1) (.int .u64 4) (.int .i64 0)))
  have HS7 := Lib.hid (N9.putted (g := gN) (N9.later HS5.out HW6.out) (by have := HGN.out; omega) (.int .u64 1) (.int .u64 (v2 : Int)) (.int .u64 (nn : Int)) (.int .u64 0) (.string M2) (.bool true) (.int .u64 1) (.int .u64 4) (.int .i64 0))
  have HO7 := Lib.hid ((put_other (w := w6) (g := gN) (q := gN + 1) (by omega) (.int .u64 1) (.int .u64 (v2 : Int)) (.int .u64 (nn : Int)) (.int .u64 0) (.string M2) (.bool true) (.int .u64 1) (.int .u64 4) (.int .i64 0)).trans ((HW6.out.block _ (lt_of_heap HO5.out)).trans HO5.out))
  have HB7 := Lib.hid (set9 HGN.out.1 (HB5.out.trans (HW6.out.mono HB5.out.size)) (.int .u64 1) (.int .u64 (v2 : Int)) (.int .u64 (nn : Int)) (.int .u64 0) (.string M2) (.bool true) (.int .u64 1) (.int .u64 4) (.int .i64 0))
  clear c0 c1 c2 c3 c4 c5 c6 c7 c8 f0 f1 f2 f3 f4 f5 f6 f7 f8 d0 d1 d2 d3 d4 d5 d6 d7 d8 h0 h1 h2 h3 h4 h5 h6 h7 h8 m0 m1 m2 k0 k1 k2 k3 k4 k5 k6
  clear HN5 HM5 HS5 HO5 HB5 HA5 HW6 K15
  generalize (((((((((w6.setCell ⟨gN, 0, none⟩ (.int .u64 1)).setCell ⟨gN, 1, none⟩ (.int .u64 (v2 : Int))).setCell ⟨gN, 2, none⟩ (.int .u64 (nn : Int))).setCell ⟨gN, 3, none⟩ (.int .u64 0)).setCell ⟨gN, 4, none⟩ (.string M2)).setCell ⟨gN, 5, none⟩ (.bool true)).setCell ⟨gN, 6, none⟩ (.int .u64 1)).setCell ⟨gN, 7, none⟩ (.int .u64 4)).setCell ⟨gN, 8, none⟩ (.int .i64 0)) = w7 at *
  obtain ⟨⟨m0, m1, m2⟩, _⟩ := three HO7.out
  go_upto_region 26 with fail
  go_upto_region 27 with (first
    | (refine wpList_mapput rfl (.tmp 115) (.tmp 117) (.tmp 118) rfl b k n nn r M2 rfl HM7.out (by have := HV.out; omega) HNB.out.1 HNB.out.2.2 rfl rfl ?_; intro w8 hm8 ho8 hb8; have HM8 := Lib.hid hm8; have HN8 := Lib.hid ((ho8 _ HN7.out.lt (by have := HGN.out; omega)).trans HN7.out); have HS8 := Lib.hid ((ho8 _ HS7.out.lt (Ne.symm HBG.out)).trans HS7.out); have HB8 := Lib.hid (HB7.out.trans (hb8 _ HG.out.2)); clear hm8 ho8 hb8 m0 m1 m2))
  clear HN7 HM7 HS7 HO7 HB7
  obtain ⟨⟨c0, c1, c2, c3, c4, c5, c6, c7, c8⟩, f0, f1, f2, f3, f4, f5, f6, f7, f8⟩ := nine HN8.out
  obtain ⟨⟨d0, d1, d2, d3, d4, d5, d6, d7, d8⟩, h0, h1, h2, h3, h4, h5, h6, h7, h8⟩ := nine HS8.out
  go_upto_region 29 with fail
  go_wp2
  refine ⟨WI4.mk (j + 1) v2 nn (k + 1) M2 rfl rfl (by first | rfl | go_num) (by omega) (by have := HV.out; omega) HNB.out.2.1 HNB.out.1 HNB.out.2.2 (fun e => absurd e HNZ.out.1) (Lib.hid (N9.put HS8.out (.int .u64 1) (.int .u64 (v2 : Int)) (.int .u64 (nn : Int)) (.int .u64 0) (.string M2) (.bool true) (.int .u64 1) (.int .u64 4) (.int .i64 0))) (Lib.hid (HM8.out.block (put_other (w := w8) (g := g3) (q := b) HBG.out (.int .u64 1) (.int .u64 (v2 : Int)) (.int .u64 (nn : Int)) (.int .u64 0) (.string M2) (.bool true) (.int .u64 1) (.int .u64 4) (.int .i64 0)))) (Lib.hid (set9 HG.out.1 HB8.out (.int .u64 1) (.int .u64 (v2 : Int)) (.int .u64 (nn : Int)) (.int .u64 0) (.string M2) (.bool true) (.int .u64 1) (.int .u64 4) (.int .i64 0))), ?_⟩
  show m - (intOf (.int .i64 ((j : Int) + 1))).toNat < m - j
  simp [intOf]; omega
end Go.Proofs.Ytdojepkmjifoeaa

namespace Go.Proofs.Ytdojepkmjifoeaa
open Go.RowKit

set_option maxRecDepth 1000000 in
set_option maxHeartbeats 64000000 in
theorem once_te {w wr : World} {ab ao m cap g3 b k j v v2 n nn ver ad aw av an acd C : Nat} {r abd atx bd M M2 R : ByteArray} {u : Nat → Value} {Q0 : Exit → Act → World → Prop}
    (hj : j < m) (hab : abd.size ≤ 3000) (hat : atx.size ≤ 3000) (hd : ad % 6 = 3) (hc0 : C ≠ 0) (hc1 : C ≠ 11)
    (c0 : wr.cell? ⟨ab, ao + j * 7, none⟩ = some (.int .u8 (ad : Int))) (c1 : wr.cell? ⟨ab, ao + j * 7 + 1, none⟩ = some (.int .u64 (aw : Int))) (c2 : wr.cell? ⟨ab, ao + j * 7 + 2, none⟩ = some (.int .u64 (av : Int))) (c3 : wr.cell? ⟨ab, ao + j * 7 + 3, none⟩ = some (.int .u64 (an : Int))) (c4 : wr.cell? ⟨ab, ao + j * 7 + 4, none⟩ = some (.string abd)) (c5 : wr.cell? ⟨ab, ao + j * 7 + 5, none⟩ = some (.string atx)) (c6 : wr.cell? ⟨ab, ao + j * 7 + 6, none⟩ = some (.int .u8 (acd : Int)))
    (K7 : Hid (∀ (W : World) (g : Nat), g = W.heap.size → Calls Try.prog 7 #[.int .i64 2, .int .u64 1, .string abd, .slice (some ⟨g, 0, none⟩) 2 2] (W.alloc (.cells #[.int .u64 (av : Int), .int .u64 ((an : Int) % 8)] 22)) fun z w' => z = .returned (.string M) ∧ Below (W.alloc (.cells #[.int .u64 (av : Int), .int .u64 ((an : Int) % 8)] 22)).heap.size (W.alloc (.cells #[.int .u64 (av : Int), .int .u64 ((an : Int) % 8)] 22)) w'))
    (K14 : Hid (∀ w, Calls Try.prog 14 #[.agg #[.int .u64 1, .int .u64 (v : Int), .int .u64 (n : Int), .int .u64 0, .string r, .bool true, .int .u64 1, .int .u64 4, .int .i64 0], .string atx] w fun z w' => z = .returned (.tuple #[.agg #[.int .u64 1, .int .u64 (v : Int), .int .u64 (n : Int), .int .u64 0, .string r, .bool true, .int .u64 1, .int .u64 4, .int .i64 0], .agg #[.int .u64 0, .int .u64 0, .string ⟨#[]⟩], .string R, .int .i64 (C : Int)]) ∧ Below w.heap.size w w'))
    (HV : Hid (k ≤ j ∧ v ≤ 18446744073709551615 ∧ n ≤ 18446744073709551615 ∧ r.size ≤ 1000000000 ∧ (n = 0 → r = ⟨#[]⟩))) (hm : m ≤ 40) (HBG : Hid (b ≠ g3)) (HG : Hid (w.heap.size ≤ g3 ∧ w.heap.size ≤ b))
    (HN : Hid (N9 wr g3 (.int .u64 1) (.int .u64 (v : Int)) (.int .u64 (n : Int)) (.int .u64 0) (.string r) (.bool true) (.int .u64 1) (.int .u64 4) (.int .i64 0))) (HM : Hid (MpR wr b k n r)) (HB : Hid (Below w.heap.size w wr)) :
    Code.wp Try.prog body4 (Exit.then (fun a' w'' => WI4 (some ⟨ab, ao, none⟩) m cap g3 b w a' w'' ∧ Wmu4 m a' < m - j) Q0) (fo (some ⟨ab, ao, none⟩) m cap g3 b (.int .u64 (n : Int)) (.int .i64 (j : Int)) u) wr := by
  conv => arg 2; whnf
  unfold fo
  have q1 : (j : Int) < (m : Int) := by omega
  have q2 : decide ((3000 : Int) < max (abd.size : Int) (atx.size : Int)) = false := by rw [decide_eq_false_iff_not]; omega
  have i1 : ao + j * 7 + 0 = ao + j * 7 := by omega
  go_upto_region 13 with fail
  have HA2 : Hid ((wr.alloc (.cells #[.int .u8 (ad : Int), .int .u64 (aw : Int), .int .u64 (av : Int), .int .u64 (an : Int), .string abd, .string atx, .int .u8 (acd : Int)] 45)).heap[wr.heap.size]? = some (.cells #[.int .u8 (ad : Int), .int .u64 (aw : Int), .int .u64 (av : Int), .int .u64 (an : Int), .string abd, .string atx, .int .u8 (acd : Int)] 45 (0, 0))) := Lib.hid (heap_alloc_new wr _)
  have HN2 := Lib.hid (N9.later HN.out (alloc_below wr (.cells #[.int .u8 (ad : Int), .int .u64 (aw : Int), .int .u64 (av : Int), .int .u64 (an : Int), .string abd, .string atx, .int .u8 (acd : Int)] 45)))
  have HM2 := Lib.hid (HM.out.later (alloc_below wr (.cells #[.int .u8 (ad : Int), .int .u64 (aw : Int), .int .u64 (av : Int), .int .u64 (an : Int), .string abd, .string atx, .int .u8 (acd : Int)] 45)))
  have HB2 := Lib.hid (HB.out.trans ((alloc_below wr (.cells #[.int .u8 (ad : Int), .int .u64 (aw : Int), .int .u64 (av : Int), .int .u64 (an : Int), .string abd, .string atx, .int .u8 (acd : Int)] 45)).mono HB.out.size))
  generalize wr.alloc (.cells #[.int .u8 (ad : Int), .int .u64 (aw : Int), .int .u64 (av : Int), .int .u64 (an : Int), .string abd, .string atx, .int .u8 (acd : Int)] 45) = w2 at *
  generalize wr.heap.size = gX at *
  clear c0 c1 c2 c3 c4 c5 c6 HN HM HB i1
  obtain ⟨k0, k1, k2, k3, k4, k5, k6⟩ := seven HA2.out
  obtain ⟨⟨d0, d1, d2, d3, d4, d5, d6, d7, d8⟩, _⟩ := nine HN2.out
  go_upto_region 14 with (first
    | (go_at_call 7; ((with_reducible refine (K7.out _ _ rfl).mono ?_); rintro z w3 ⟨rfl, hb3'⟩; have hb3 := Bk.bt hb3'; have HA3 := Lib.hid ((hb3.block _ (lt_of_heap HA2.out)).trans HA2.out); have HN3 := Lib.hid (N9.later HN2.out hb3); have HM3 := Lib.hid (HM2.out.later hb3); have HB3 := Lib.hid (HB2.out.trans (hb3.mono HB2.out.size)); clear k0 k1 k2 k3 k4 k5 k6; clear d0 d1 d2 d3 d4 d5 d6 d7 d8; clear hb3 hb3'; obtain ⟨k0, k1, k2, k3, k4, k5, k6⟩ := seven HA3.out; obtain ⟨⟨d0, d1, d2, d3, d4, d5, d6, d7, d8⟩, _⟩ := nine HN3.out)))
  clear HA2 HN2 HM2 HB2 K7
  obtain ⟨dm, hdm⟩ : ∃ dm, dm = ad % 6 := ⟨_, rfl⟩
  have e6 : (ad : Int) % 6 = (dm : Int) := by omega
  have q3 : ((dm : Int) == 3) = true := by rw [beq_iff_eq]; omega
  clear hdm
  go_upto_region 16 with fail
  go_upto_region 17 with (first
    | (go_at_call 14; ((with_reducible refine (K14.out _).mono ?_); rintro z w4 ⟨rfl, hb4⟩; have HW4 := Lib.hid hb4; clear d0 d1 d2 d3 d4 d5 d6 d7 d8 k0 k1 k2 k3 k4 k5 k6; clear hb4)))
  have hba : Below w4.heap.size w4 ((w4.alloc (.cells #[.int .u64 1, .int .u64 (v : Int), .int .u64 (n : Int), .int .u64 0, .string r, .bool true, .int .u64 1, .int .u64 4, .int .i64 0] 39)).alloc (.cells #[.int .u64 0, .int .u64 0, .string ⟨#[]⟩] 47)) := (alloc_below w4 _).trans ((alloc_below _ _).mono (alloc_below w4 _).size)
  have HN5 : Hid (N9 ((w4.alloc (.cells #[.int .u64 1, .int .u64 (v : Int), .int .u64 (n : Int), .int .u64 0, .string r, .bool true, .int .u64 1, .int .u64 4, .int .i64 0] 39)).alloc (.cells #[.int .u64 0, .int .u64 0, .string ⟨#[]⟩] 47)) w4.heap.size (.int .u64 1) (.int .u64 (v : Int)) (.int .u64 (n : Int)) (.int .u64 0) (.string r) (.bool true) (.int .u64 1) (.int .u64 4) (.int .i64 0)) := Lib.hid ((N9.new w4 (.int .u64 1) (.int .u64 (v : Int)) (.int .u64 (n : Int)) (.int .u64 0) (.string r) (.bool true) (.int .u64 1) (.int .u64 4) (.int .i64 0)).later (alloc_below _ _))
  have HO5 : Hid (((w4.alloc (.cells #[.int .u64 1, .int .u64 (v : Int), .int .u64 (n : Int), .int .u64 0, .string r, .bool true, .int .u64 1, .int .u64 4, .int .i64 0] 39)).alloc (.cells #[.int .u64 0, .int .u64 0, .string ⟨#[]⟩] 47)).heap[w4.heap.size + 1]? = some (.cells #[.int .u64 0, .int .u64 0, .string ⟨#[]⟩] 47 (0, 0))) := Lib.hid (by
    have h := heap_alloc_new (w4.alloc (.cells #[.int .u64 1, .int .u64 (v : Int), .int .u64 (n : Int), .int .u64 0, .string r, .bool true, .int .u64 1, .int .u64 4, .int .i64 0] 39)) (.cells #[.int .u64 0, .int .u64 0, .string ⟨#[]⟩] 47)
    have e : (w4.alloc (.cells #[.int .u64 1, .int .u64 (v : Int), .int .u64 (n : Int), .int .u64 0, .string r, .bool true, .int .u64 1, .int .u64 4, .int .i64 0] 39)).heap.size = w4.heap.size + 1 := by simp
    rw [e] at h; exact h)
  have HS5 := Lib.hid (N9.later (N9.later HN3.out HW4.out) hba)
  have HA5 := Lib.hid ((hba.block _ (lt_of_heap ((HW4.out.block _ (lt_of_heap HA3.out)).trans HA3.out))).trans ((HW4.out.block _ (lt_of_heap HA3.out)).trans HA3.out))
  have HM5 := Lib.hid ((HM3.out.later HW4.out).later hba)
  have HB5 := Lib.hid ((HB3.out.trans (HW4.out.mono HB3.out.size)).trans (hba.mono (HB3.out.trans (HW4.out.mono HB3.out.size)).size))
  have HGN : Hid (w.heap.size ≤ w4.heap.size ∧ g3 < w4.heap.size ∧ b < w4.heap.size) := Lib.hid ⟨(HB3.out.trans (HW4.out.mono HB3.out.size)).size, (N9.later HN3.out HW4.out).lt, (HM3.out.later HW4.out).lt⟩
  clear hba HW4 HA3 HN3 HM3 HB3 K14
  generalize ((w4.alloc (.cells #[.int .u64 1, .int .u64 (v : Int), .int .u64 (n : Int), .int .u64 0, .string r, .bool true, .int .u64 1, .int .u64 4, .int .i64 0] 39)).alloc (.cells #[.int .u64 0, .int .u64 0, .string ⟨#[]⟩] 47)) = w5 at *
  generalize w4.heap.size = gN at *
  obtain ⟨⟨c0, c1, c2, c3, c4, c5, c6, c7, c8⟩, _⟩ := nine HN5.out
  obtain ⟨⟨d0, d1, d2, d3, d4, d5, d6, d7, d8⟩, h0, h1, h2, h3, h4, h5, h6, h7, h8⟩ := nine HS5.out
  obtain ⟨⟨m0, m1, m2⟩, _⟩ := three HO5.out
  obtain ⟨k0, k1, k2, k3, k4, k5, k6⟩ := seven HA5.out
  have t0 : ((C : Int) == 0) = false := by rw [beq_eq_false_iff_ne]; omega
  have t1 : ((C : Int) == 11) = false := by rw [beq_eq_false_iff_ne]; omega
  clear hc0 hc1
  go_upto_region 20 with fail
  go_upto_region 27 with fail
  go_upto_region 29 with fail
  go_wp2
  refine ⟨WI4.mk (j + 1) v n k r rfl rfl (by first | rfl | go_num) (by omega) (by have := HV.out; omega) HV.out.2.1 HV.out.2.2.1 HV.out.2.2.2.1 HV.out.2.2.2.2 (Lib.hid (N9.put HS5.out (.int .u64 1) (.int .u64 (v : Int)) (.int .u64 (n : Int)) (.int .u64 0) (.string r) (.bool true) (.int .u64 1) (.int .u64 4) (.int .i64 0))) (Lib.hid (HM5.out.block (put_other (w := w5) (g := g3) (q := b) HBG.out (.int .u64 1) (.int .u64 (v : Int)) (.int .u64 (n : Int)) (.int .u64 0) (.string r) (.bool true) (.int .u64 1) (.int .u64 4) (.int .i64 0)))) (Lib.hid (set9 HG.out.1 HB5.out (.int .u64 1) (.int .u64 (v : Int)) (.int .u64 (n : Int)) (.int .u64 0) (.string r) (.bool true) (.int .u64 1) (.int .u64 4) (.int .i64 0))), ?_⟩
  show m - (intOf (.int .i64 ((j : Int) + 1))).toNat < m - j
  simp [intOf]; omega
end Go.Proofs.Ytdojepkmjifoeaa
