/- SessionOnce: what Take answers of any text, in three ways.; The law SessionOnce: what holds at each round.; The law SessionOnce: a round. -/
import Derived.Test.YtdojepkmjifoeaaJ36
import Derived.Test.YtdojepkmjifoeaaJ35
import Derived.Laws.BitsAllLaws
set_option linter.unusedVariables false
set_option linter.unusedSimpArgs false
namespace Go.Proofs.Ytdojepkmjifoeaa
open Go.RowKit

/-- A call that ends ends somehow. -/
theorem Calls.some {P : Program} {f : FuncId} {args : Array Value} {w : World} {R : Ending → World → Prop} (h : Calls P f args w R) : ∃ e w', R e w' := by
  obtain ⟨e, w', _, hR, _⟩ := h []
  exact ⟨e, w', hR⟩
/-- What stands in any text's list is not too great. -/
theorem ms_le (t : ByteArray) (ht : t.size ≤ 1000000000) (w : World) : (∀ x ∈ msN t, x ≤ 18446744073709551615) ∧ (msB t).size ≤ 1000000000 := by
  obtain ⟨_, w', d0, d1, d2, d3, _, hv, _⟩ := Calls.some (cget_any (pB t) (Nat.le_trans (pB_le t) ht) w)
  obtain ⟨g, hg⟩ : ∃ g, getT (pB t) = g := ⟨_, rfl⟩
  obtain ⟨gk, gn, gs, l⟩ := g
  have hv2 := VInP.plain _ hv
  rw [hg] at hv2
  have h := prN_le hv2
  have hk := kids_of hg
  unfold msN msB
  rw [hk]
  exact ⟨h.1, h.2.1⟩
theorem two_of (l : List Nat) (h : l.length = 2) : ∃ a b, l = [a, b] := by
  match l, h with
  | [a, b], _ => exact ⟨a, b, rfl⟩
/-- Take of any text: an error; the reply once more; an offer. -/
theorem take_gen (s : Ss) (hs : s.ok) (t : ByteArray) (ht : t.size ≤ 1000000000) (w0 : World) :
    (∃ (C : Nat) (R : ByteArray), C ≠ 0 ∧ (C = 11 → R = s.r ∧ s.r ≠ ⟨#[]⟩) ∧ ∀ w, Calls Try.prog 14 #[s.val, .string t] w fun z w' => z = .returned (.tuple #[s.val, .agg #[.int .u64 0, .int .u64 0, .string ⟨#[]⟩], .string R, .int .i64 (C : Int)]) ∧ Below w.heap.size w w') ∨
    (∃ ver nn : Nat, okM t ∧ pK t = 2 ∧ pE t = s.e ∧ msN t = [ver, nn] ∧ s.n < nn ∧ ver ≤ 18446744073709551615 ∧ nn ≤ 18446744073709551615 ∧ (msB t).size ≤ 1000000000 ∧
      ∀ w, Calls Try.prog 14 #[s.val, .string t] w fun z w' => z = .returned (.tuple #[({ s with n := nn, r := ⟨#[]⟩, t := 0 } : Ss).val, .agg #[.int .u64 (ver : Int), .int .u64 (nn : Int), .string (msB t)], .string ⟨#[]⟩, .int .i64 0]) ∧ Below w.heap.size w w') := by
  by_cases hm : okM t
  · by_cases hk : pK t = 2
    · have hl : (msN t).length = 2 := by
        have h := hm.2.2.1
        rw [hk] at h
        have e : numK ((2 : Nat) : Int) = 2 := rfl
        omega
      obtain ⟨ver, nn, hml⟩ := two_of _ hl
      obtain ⟨hle, hb⟩ := ms_le t ht w0
      rw [hml] at hle
      by_cases hc : knC s (pE t) nn = 0
      · right
        have hc' := hc
        unfold knC at hc'
        split at hc'
        · omega
        split at hc'
        · omega
        rename_i h1 h2
        split at hc'
        · omega
        split at hc'
        · rename_i h3 h4
          exact ⟨ver, nn, hm, hk, by simpa using h2, hml, h4, hle ver (by simp), hle nn (by simp), hb, fun w => take_ok s hs t ht hm hk ver nn hml hc w⟩
        · split at hc' <;> omega
      · left
        refine ⟨knC s (pE t) nn, knR s (pE t) nn, hc, fun h => ?_, fun w => take_known s hs t ht hm hk ver nn hml hc w⟩
        refine ⟨by unfold knR; rw [if_pos h], fun hr => ?_⟩
        unfold knC at h
        rw [hr] at h
        split at h
        · omega
        split at h
        · omega
        split at h
        · omega
        split at h
        · omega
        · simp at h
    · left
      exact ⟨10, ⟨#[]⟩, by omega, fun h => absurd h (by omega), fun w => take_kind s hs t ht hm hk w⟩
  · left
    exact ⟨4, ⟨#[]⟩, by omega, fun h => absurd h (by omega), fun w => take_bad s hs t ht hm w⟩
end Go.Proofs.Ytdojepkmjifoeaa

namespace Go.Proofs.Ytdojepkmjifoeaa
open Go.RowKit

def firstLoop : Code → Option Code
  | .loop c => some c
  | .seq a b => match firstLoop a with
    | some c => some c
    | none => firstLoop b
  | .block _ c => firstLoop c
  | .scope c => firstLoop c
  | .cond _ a b => match firstLoop a with
    | some c => some c
    | none => firstLoop b
  | _ => none
noncomputable def body4 : Code := (Try.f4.body.bind firstLoop).getD .skip
def fo (oa : Option Addr) (m cap g3 b : Nat) (x5 x29 : Value) (u : Nat → Value) : Act := ⟨List.toArray [.slice oa m cap, u 1, u 2, .pointer (some ⟨g3, 0, none⟩), u 4, x5, .map (some b), u 7, u 8, u 9, u 10, u 11, u 12, u 13, u 14, u 15, u 16, u 17, u 18, u 19, u 20, u 21, u 22, u 23, u 24, u 25, u 26, .slice oa m cap, .int .i64 (m : Int), x29, u 30, u 31, u 32, u 33, u 34, u 35, u 36, u 37, u 38, u 39, u 40, u 41, u 42, u 43, u 44, u 45, u 46, u 47, u 48, u 49, u 50, u 51, u 52, u 53, u 54, u 55, u 56, u 57, u 58, u 59, u 60, u 61, u 62, u 63, u 64, u 65, u 66, u 67, u 68, u 69, u 70, u 71, u 72, u 73, u 74, u 75, u 76, u 77, u 78, u 79, u 80, u 81, u 82, u 83, u 84, u 85, u 86, u 87, u 88, u 89, u 90, u 91, u 92, u 93, u 94, u 95, u 96, u 97, u 98, u 99, u 100, u 101, u 102, u 103, u 104, u 105, u 106, u 107, u 108, u 109, u 110, u 111, u 112, u 113, u 114, u 115, u 116, u 117, u 118, u 119, u 120, u 121, u 122, u 123, u 124, u 125, u 126, u 127, u 128, u 129, u 130], []⟩
/-- What holds at each act. -/
def WI4 (oa : Option Addr) (m cap g3 b : Nat) (w : World) (a : Act) (wr : World) : Prop := ∃ (u : Nat → Value) (j v n k : Nat) (r : ByteArray), a = fo oa m cap g3 b (.int .u64 (n : Int)) (.int .i64 (j : Int)) u ∧ j ≤ m ∧ k ≤ j ∧ v ≤ 18446744073709551615 ∧ n ≤ 18446744073709551615 ∧ r.size ≤ 1000000000 ∧ (n = 0 → r = ⟨#[]⟩) ∧ Hid (N9 wr g3 (.int .u64 1) (.int .u64 (v : Int)) (.int .u64 (n : Int)) (.int .u64 0) (.string r) (.bool true) (.int .u64 1) (.int .u64 4) (.int .i64 0)) ∧ Hid (MpR wr b k n r) ∧ Hid (Below w.heap.size w wr)
theorem WI4.mk {oa : Option Addr} {m cap g3 b : Nat} {w wr : World} {a : Act} {x5 x29 : Value} (j v n k : Nat) (r : ByteArray) (ha : a = fo oa m cap g3 b x5 x29 (fun i => a.tmps.getD i undef)) (h5 : x5 = .int .u64 (n : Int)) (h29 : x29 = .int .i64 (j : Int)) (hj : j ≤ m) (hk : k ≤ j) (hv : v ≤ 18446744073709551615) (hn : n ≤ 18446744073709551615) (hr : r.size ≤ 1000000000) (h0 : n = 0 → r = ⟨#[]⟩)
    (HN : Hid (N9 wr g3 (.int .u64 1) (.int .u64 (v : Int)) (.int .u64 (n : Int)) (.int .u64 0) (.string r) (.bool true) (.int .u64 1) (.int .u64 4) (.int .i64 0))) (HM : Hid (MpR wr b k n r)) (HB : Hid (Below w.heap.size w wr)) : WI4 oa m cap g3 b w a wr := by
  subst h5; subst h29
  exact ⟨_, j, v, n, k, r, ha, hj, hk, hv, hn, hr, h0, HN, HM, HB⟩
def Wmu4 (m : Nat) (a : Act) : Nat := m - (intOf (a.tmps.getD 29 undef)).toNat
theorem seven {w : World} {g : Nat} {a0 a1 a2 a3 a4 a5 a6 : Value} (h : w.heap[g]? = some (.cells #[a0, a1, a2, a3, a4, a5, a6] 45 (0, 0))) : w.cell? ⟨g, 0, none⟩ = some a0 ∧ w.cell? ⟨g, 1, none⟩ = some a1 ∧ w.cell? ⟨g, 2, none⟩ = some a2 ∧ w.cell? ⟨g, 3, none⟩ = some a3 ∧ w.cell? ⟨g, 4, none⟩ = some a4 ∧ w.cell? ⟨g, 5, none⟩ = some a5 ∧ w.cell? ⟨g, 6, none⟩ = some a6 := by
  have cc := fun (j : Nat) (v : Value) (hj : (#[a0, a1, a2, a3, a4, a5, a6] : Array Value)[j]? = some v) => (cell_of_row w g j _ _ _ h).trans hj
  exact ⟨cc 0 _ rfl, cc 1 _ rfl, cc 2 _ rfl, cc 3 _ rfl, cc 4 _ rfl, cc 5 _ rfl, cc 6 _ rfl⟩
end Go.Proofs.Ytdojepkmjifoeaa

namespace Go.Proofs.Ytdojepkmjifoeaa
open Go.RowKit

set_option maxRecDepth 1000000 in
set_option maxHeartbeats 64000000 in
theorem once_oe {w wr : World} {ab ao m cap g3 b k j v v2 n nn ver ad aw av an acd C : Nat} {r abd atx bd M M2 R : ByteArray} {u : Nat → Value} {Q0 : Exit → Act → World → Prop}
    (hj : j < m) (hab : abd.size ≤ 3000) (hat : atx.size ≤ 3000) (hd : ad % 6 ≠ 3) (hc0 : C ≠ 0) (hc1 : C ≠ 11)
    (c0 : wr.cell? ⟨ab, ao + j * 7, none⟩ = some (.int .u8 (ad : Int))) (c1 : wr.cell? ⟨ab, ao + j * 7 + 1, none⟩ = some (.int .u64 (aw : Int))) (c2 : wr.cell? ⟨ab, ao + j * 7 + 2, none⟩ = some (.int .u64 (av : Int))) (c3 : wr.cell? ⟨ab, ao + j * 7 + 3, none⟩ = some (.int .u64 (an : Int))) (c4 : wr.cell? ⟨ab, ao + j * 7 + 4, none⟩ = some (.string abd)) (c5 : wr.cell? ⟨ab, ao + j * 7 + 5, none⟩ = some (.string atx)) (c6 : wr.cell? ⟨ab, ao + j * 7 + 6, none⟩ = some (.int .u8 (acd : Int)))
    (K7 : Hid (∀ (W : World) (g : Nat), g = W.heap.size → Calls Try.prog 7 #[.int .i64 2, .int .u64 1, .string abd, .slice (some ⟨g, 0, none⟩) 2 2] (W.alloc (.cells #[.int .u64 (av : Int), .int .u64 ((an : Int) % 8)] 22)) fun z w' => z = .returned (.string M) ∧ Below (W.alloc (.cells #[.int .u64 (av : Int), .int .u64 ((an : Int) % 8)] 22)).heap.size (W.alloc (.cells #[.int .u64 (av : Int), .int .u64 ((an : Int) % 8)] 22)) w'))
    (K14 : Hid (∀ w, Calls Try.prog 14 #[.agg #[.int .u64 1, .int .u64 (v : Int), .int .u64 (n : Int), .int .u64 0, .string r, .bool true, .int .u64 1, .int .u64 4, .int .i64 0], .string M] w fun z w' => z = .returned (.tuple #[.agg #[.int .u64 1, .int .u64 (v : Int), .int .u64 (n : Int), .int .u64 0, .string r, .bool true, .int .u64 1, .int .u64 4, .int .i64 0], .agg #[.int .u64 0, .int .u64 0, .string ⟨#[]⟩], .string R, .int .i64 (C : Int)]) ∧ Below w.heap.size w w'))
    (HV : Hid (k ≤ j ∧ v ≤ 18446744073709551615 ∧ n ≤ 18446744073709551615 ∧ r.size ≤ 1000000000 ∧ (n = 0 → r = ⟨#[]⟩))) (hm : m ≤ 40) (HBG : Hid (b ≠ g3)) (HG : Hid (w.heap.size ≤ g3 ∧ w.heap.size ≤ b))
    (HN : Hid (N9 wr g3 (.int .u64 1) (.int .u64 (v : Int)) (.int .u64 (n : Int)) (.int .u64 0) (.string r) (.bool true) (.int .u64 1) (.int .u64 4) (.int .i64 0))) (HM : Hid (MpR wr b k n r)) (HB : Hid (Below w.heap.size w wr)) :
    Code.wp Try.prog body4 (Exit.then (fun a' w'' => WI4 (some ⟨ab, ao, none⟩) m cap g3 b w a' w'' ∧ Wmu4 m a' < m - j) Q0) (fo (some ⟨ab, ao, none⟩) m cap g3 b (.int .u64 (n : Int)) (.int .i64 (j : Int)) u) wr := by
  conv => arg 2; whnf
  unfold fo
  have q1 : (j : Int) < (m : Int) := by omega
  have q2 : decide ((3000 : Int) < max (abd.size : Int) (atx.size : Int)) = false := by rw [decide_eq_false_iff_not]; omega
  have i1 : ao + j * 7 + 0 = ao + j * 7 := by omega
  go_upto_region 13 with fail
  have HA2 : Hid ((wr.alloc (.cells #[.int .u8 (ad : Int), .int .u64 (aw : Int), .int .u64 (av : Int), .int .u64 (an : Int), .string abd, .string atx, .int .u8 (acd : Int)] 45)).heap[wr.heap.size]? = some (.cells #[.int .u8 (ad : Int), .int .u64 (aw : Int), .int .u64 (av : Int), .int .u64 (an : Int), .string abd, .string atx, .int .u8 (acd : Int)] 45 (0, 0))) := Lib.hid (heap_alloc_new wr _)
  have HN2 := Lib.hid (N9.later HN.out (alloc_below wr (.cells #[.int .u8 (ad : Int), .int .u64 (aw : Int), .int .u64 (av : Int), .int .u64 (an : Int), .string abd, .string atx, .int .u8 (acd : Int)] 45)))
  have HM2 := Lib.hid (HM.out.later (alloc_below wr (.cells #[.int .u8 (ad : Int), .int .u64 (aw : Int), .int .u64 (av : Int), .int .u64 (an : Int), .string abd, .string atx, .int .u8 (acd : Int)] 45)))
  have HB2 := Lib.hid (HB.out.trans ((alloc_below wr (.cells #[.int .u8 (ad : Int), .int .u64 (aw : Int), .int .u64 (av : Int), .int .u64 (an : Int), .string abd, .string atx, .int .u8 (acd : Int)] 45)).mono HB.out.size))
  generalize wr.alloc (.cells #[.int .u8 (ad : Int), .int .u64 (aw : Int), .int .u64 (av : Int), .int .u64 (an : Int), .string abd, .string atx, .int .u8 (acd : Int)] 45) = w2 at *
  generalize wr.heap.size = gX at *
  clear c0 c1 c2 c3 c4 c5 c6 HN HM HB i1
  obtain ⟨k0, k1, k2, k3, k4, k5, k6⟩ := seven HA2.out
  obtain ⟨⟨d0, d1, d2, d3, d4, d5, d6, d7, d8⟩, _⟩ := nine HN2.out
  go_upto_region 14 with (first
    | (go_at_call 7; ((with_reducible refine (K7.out _ _ rfl).mono ?_); rintro z w3 ⟨rfl, hb3'⟩; have hb3 := Bk.bt hb3'; have HA3 := Lib.hid ((hb3.block _ (lt_of_heap HA2.out)).trans HA2.out); have HN3 := Lib.hid (N9.later HN2.out hb3); have HM3 := Lib.hid (HM2.out.later hb3); have HB3 := Lib.hid (HB2.out.trans (hb3.mono HB2.out.size)); clear k0 k1 k2 k3 k4 k5 k6; clear d0 d1 d2 d3 d4 d5 d6 d7 d8; clear hb3 hb3'; obtain ⟨k0, k1, k2, k3, k4, k5, k6⟩ := seven HA3.out; obtain ⟨⟨d0, d1, d2, d3, d4, d5, d6, d7, d8⟩, _⟩ := nine HN3.out)))
  clear HA2 HN2 HM2 HB2 K7
  obtain ⟨dm, hdm⟩ : ∃ dm, dm = ad % 6 := ⟨_, rfl⟩
  have e6 : (ad : Int) % 6 = (dm : Int) := by omega
  have q3 : ((dm : Int) == 3) = false := by rw [beq_eq_false_iff_ne]; omega
  clear hdm
  go_upto_region 16 with fail
  go_upto_region 17 with (first
    | (go_at_call 14; ((with_reducible refine (K14.out _).mono ?_); rintro z w4 ⟨rfl, hb4⟩; have HW4 := Lib.hid hb4; clear d0 d1 d2 d3 d4 d5 d6 d7 d8 k0 k1 k2 k3 k4 k5 k6; clear hb4)))
  have hba : Below w4.heap.size w4 ((w4.alloc (.cells #[.int .u64 1, .int .u64 (v : Int), .int .u64 (n : Int), .int .u64 0, .string r, .bool true, .int .u64 1, .int .u64 4, .int .i64 0] 39)).alloc (.cells #[.int .u64 0, .int .u64 0, .string ⟨#[]⟩] 47)) := (alloc_below w4 _).trans ((alloc_below _ _).mono (alloc_below w4 _).size)
  have HN5 : Hid (N9 ((w4.alloc (.cells #[.int .u64 1, .int .u64 (v : Int), .int .u64 (n : Int), .int .u64 0, .string r, .bool true, .int .u64 1, .int .u64 4, .int .i64 0] 39)).alloc (.cells #[.int .u64 0, .int .u64 0, .string ⟨#[]⟩] 47)) w4.heap.size (.int .u64 1) (.int .u64 (v : Int)) (.int .u64 (n : Int)) (.int .u64 0) (.string r) (.bool true) (.int .u64 1) (.int .u64 4) (.int .i64 0)) := Lib.hid ((N9.new w4 (.int .u64 1) (.int .u64 (v : Int)) (.int .u64 (n : Int)) (.int .u64 0) (.string r) (.bool true) (.int .u64 1) (.int .u64 4) (.int .i64 0)).later (alloc_below _ _))
  have HO5 : Hid (((w4.alloc (.cells #[.int .u64 1, .int .u64 (v : Int), .int .u64 (n : Int), .int .u64 0, .string r, .bool true, .int .u64 1, .int .u64 4, .int .i64 0] 39)).alloc (.cells #[.int .u64 0, .int .u64 0, .string ⟨#[]⟩] 47)).heap[w4.heap.size + 1]? = some (.cells #[.int .u64 0, .int .u64 0, .string ⟨#[]⟩] 47 (0, 0))) := Lib.hid (by
    have h := heap_alloc_new (w4.alloc (.cells #[.int .u64 1, .int .u64 (v : Int), .int .u64 (n : Int), .int .u64 0, .string r, .bool true, .int .u64 1, .int .u64 4, .int .i64 0] 39)) (.cells #[.int .u64 0, .int .u64 0, .string ⟨#[]⟩] 47)
    have e : (w4.alloc (.cells #[.int .u64 1, .int .u64 (v : Int), .int .u64 (n : Int), .int .u64 0, .string r, .bool true, .int .u64 1, .int .u64 4, .int .i64 0] 39)).heap.size = w4.heap.size + 1 := by simp
    rw [e] at h; exact h)
  have HS5 := Lib.hid (N9.later (N9.later HN3.out HW4.out) hba)
  have HA5 := Lib.hid ((hba.block _ (lt_of_heap ((HW4.out.block _ (lt_of_heap HA3.out)).trans HA3.out))).trans ((HW4.out.block _ (lt_of_heap HA3.out)).trans HA3.out))
  have HM5 := Lib.hid ((HM3.out.later HW4.out).later hba)
  have HB5 := Lib.hid ((HB3.out.trans (HW4.out.mono HB3.out.size)).trans (hba.mono (HB3.out.trans (HW4.out.mono HB3.out.size)).size))
  have HGN : Hid (w.heap.size ≤ w4.heap.size ∧ g3 < w4.heap.size ∧ b < w4.heap.size) := Lib.hid ⟨(HB3.out.trans (HW4.out.mono HB3.out.size)).size, (N9.later HN3.out HW4.out).lt, (HM3.out.later HW4.out).lt⟩
  clear hba HW4 HA3 HN3 HM3 HB3 K14
  generalize ((w4.alloc (.cells #[.int .u64 1, .int .u64 (v : Int), .int .u64 (n : Int), .int .u64 0, .string r, .bool true, .int .u64 1, .int .u64 4, .int .i64 0] 39)).alloc (.cells #[.int .u64 0, .int .u64 0, .string ⟨#[]⟩] 47)) = w5 at *
  generalize w4.heap.size = gN at *
  obtain ⟨⟨c0, c1, c2, c3, c4, c5, c6, c7, c8⟩, _⟩ := nine HN5.out
  obtain ⟨⟨d0, d1, d2, d3, d4, d5, d6, d7, d8⟩, h0, h1, h2, h3, h4, h5, h6, h7, h8⟩ := nine HS5.out
  obtain ⟨⟨m0, m1, m2⟩, _⟩ := three HO5.out
  obtain ⟨k0, k1, k2, k3, k4, k5, k6⟩ := seven HA5.out
  have t0 : ((C : Int) == 0) = false := by rw [beq_eq_false_iff_ne]; omega
  have t1 : ((C : Int) == 11) = false := by rw [beq_eq_false_iff_ne]; omega
  clear hc0 hc1
  go_upto_region 20 with fail
  go_upto_region 27 with fail
  go_upto_region 29 with fail
  go_wp2
  refine ⟨WI4.mk (j + 1) v n k r rfl rfl (by first | rfl | go_num) (by omega) (by have := HV.out; omega) HV.out.2.1 HV.out.2.2.1 HV.out.2.2.2.1 HV.out.2.2.2.2 (Lib.hid (N9.put HS5.out (.int .u64 1) (.int .u64 (v : Int)) (.int .u64 (n : Int)) (.int .u64 0) (.string r) (.bool true) (.int .u64 1) (.int .u64 4) (.int .i64 0))) (Lib.hid (HM5.out.block (put_other (w := w5) (g := g3) (q := b) HBG.out (.int .u64 1) (.int .u64 (v : Int)) (.int .u64 (n : Int)) (.int .u64 0) (.string r) (.bool true) (.int .u64 1) (.int .u64 4) (.int .i64 0)))) (Lib.hid (set9 HG.out.1 HB5.out (.int .u64 1) (.int .u64 (v : Int)) (.int .u64 (n : Int)) (.int .u64 0) (.string r) (.bool true) (.int .u64 1) (.int .u64 4) (.int .i64 0))), ?_⟩
  show m - (intOf (.int .i64 ((j : Int) + 1))).toNat < m - j
  simp [intOf]; omega
end Go.Proofs.Ytdojepkmjifoeaa
