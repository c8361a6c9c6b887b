/- The law SessionEpochs: a round. -/
import Derived.Test.YtdojepkmjifoeaaJ36
import Derived.Test.YtdojepkmjifoeaaJ39
import Derived.Laws.BitsAllLaws
set_option linter.unusedVariables false
set_option linter.unusedSimpArgs false
namespace Go.Proofs.Ytdojepkmjifoeaa
open Go.RowKit

def firstLoop : Code → Option Code
  | .loop c => some c
  | .seq a b => match firstLoop a with
    | some c => some c
    | none => firstLoop b
  | .block _ c => firstLoop c
  | .scope c => firstLoop c
  | .cond _ a b => match firstLoop a with
    | some c => some c
    | none => firstLoop b
  | _ => none
noncomputable def body5 : Code := (Try.f5.body.bind firstLoop).getD .skip
/-- What holds at each round. -/
def WI5 (g5 rd cd m : Nat) (w : World) (a : Act) (wr : World) : Prop := ∃ (x8 x11 x18 x19 x20 x22 : Value) (u : Nat → Value) (i ver n0 nw : Nat) (r0 : ByteArray) (t0 : Int), a = fe g5 (.int .u8 (rd : Int)) (.int .u16 (cd : Int)) (.int .u64 (nw : Int)) (.int .u64 (ver : Int)) x8 x11 x18 x19 x20 x22 (.int .u8 (m : Int)) (.int .u8 (i : Int)) u ∧
  nw = 2 * i ∧ i ≤ m ∧ ver ≤ 900 ∧ n0 ≤ 1000 ∧ r0.size ≤ 1000000000 ∧ Hid (N9 wr g5 (.int .u64 (i : Int)) (.int .u64 (ver : Int)) (.int .u64 (n0 : Int)) (.int .u64 (nw : Int)) (.string r0) (.bool false) (.int .u64 2) (.int .u64 9) (.int .i64 t0)) ∧ Hid (Below w.heap.size w wr)
theorem WI5.mk {g5 rd cd m : Nat} {w wr : World} {a : Act} {x6 x7 x8 x11 x18 x19 x20 x22 x32 : Value} (i ver n0 nw : Nat) (r0 : ByteArray) (t0 : Int) (ha : a = fe g5 (.int .u8 (rd : Int)) (.int .u16 (cd : Int)) x6 x7 x8 x11 x18 x19 x20 x22 (.int .u8 (m : Int)) x32 (fun j => a.tmps.getD j undef)) (h6 : x6 = .int .u64 (nw : Int)) (h7 : x7 = .int .u64 (ver : Int)) (h32 : x32 = .int .u8 (i : Int))
    (hnw : nw = 2 * i) (him : i ≤ m) (hv : ver ≤ 900) (hn : n0 ≤ 1000) (hr : r0.size ≤ 1000000000) (HN : Hid (N9 wr g5 (.int .u64 (i : Int)) (.int .u64 (ver : Int)) (.int .u64 (n0 : Int)) (.int .u64 (nw : Int)) (.string r0) (.bool false) (.int .u64 2) (.int .u64 9) (.int .i64 t0))) (HB : Hid (Below w.heap.size w wr)) : WI5 g5 rd cd m w a wr := by
  subst h6; subst h7; subst h32
  exact ⟨x8, x11, x18, x19, x20, x22, _, i, ver, n0, nw, r0, t0, ha, hnw, him, hv, hn, hr, HN, HB⟩
theorem bit_of {cd i c : Nat} (hcd : cd ≤ 65535) (h : cd / 2 ^ i % 2 = c) : wrap64 (bits BinOp.and IntKind.u16 ((cd : Int) / 2 ^ i) 1) = (c : Int) := by
  have e : (cd : Int) / 2 ^ i = ((cd / 2 ^ i : Nat) : Int) := by push_cast; rfl
  have hl : cd / 2 ^ i ≤ cd := Nat.div_le_self _ _
  rw [e]
  have h2 := u16_and_nat (cd / 2 ^ i) 1 (by omega) (by omega)
  rw [Nat.and_one_is_mod, h] at h2
  have h3 : bits BinOp.and IntKind.u16 ((cd / 2 ^ i : Nat) : Int) 1 = (c : Int) := h2
  rw [h3]
  have : c ≤ 1 := by omega
  unfold wrap64; omega
def Wmu5 (m : Nat) (a : Act) : Nat := m - (intOf (a.tmps.getD 32 undef)).toNat
set_option maxRecDepth 1000000 in
set_option maxHeartbeats 64000000 in
theorem round_ack {w wr : World} {g5 rd cd m i i1 ver vn nw nx n0 : Nat} {r0 : ByteArray} {t0 : Int} {x8 x11 x18 x19 x20 x22 : Value} {u : Nat → Value} {Q0 : Exit → Act → World → Prop}
    (HE : Hid (i1 = i + 1 ∧ vn = 100 + i ∧ nw = 2 * i ∧ nx = nw + 2 ∧ i ≤ 11)) (HV : Hid (ver ≤ 900 ∧ n0 ≤ 1000 ∧ r0.size ≤ 1000000000)) (hm : m ≤ 11) (him : i < m) (hcd : cd ≤ 65535) (hbit : cd / 2 ^ i % 2 = 0)
    (HG : Hid (w.heap.size ≤ g5)) (HN : Hid (N9 wr g5 (.int .u64 (i : Int)) (.int .u64 (ver : Int)) (.int .u64 (n0 : Int)) (.int .u64 (nw : Int)) (.string r0) (.bool false) (.int .u64 2) (.int .u64 9) (.int .i64 t0))) (HB : Hid (Below w.heap.size w wr)) :
    Code.wp Try.prog body5 (Exit.then (fun a' w'' => WI5 g5 rd cd m w a' w'' ∧ Wmu5 m a' < m - i) Q0) (fe g5 (.int .u8 (rd : Int)) (.int .u16 (cd : Int)) (.int .u64 (nw : Int)) (.int .u64 (ver : Int)) x8 x11 x18 x19 x20 x22 (.int .u8 (m : Int)) (.int .u8 (i : Int)) u) wr := by
  conv => arg 2; whnf
  unfold fe
  obtain ⟨M1, hM1⟩ : ∃ M, msgV 1 i1 ⟨#[]⟩ [ver] = M := ⟨_, rfl⟩
  obtain ⟨M2, hM2⟩ : ∃ M, msgV 2 i ⟨#[120]⟩ [1, 1] = M := ⟨_, rfl⟩
  obtain ⟨M3, hM3⟩ : ∃ M, msgV 2 i1 ⟨#[120]⟩ [vn, 1] = M := ⟨_, rfl⟩
  obtain ⟨M4, hM4⟩ : ∃ M, msgV 3 i1 ⟨#[]⟩ [vn, 1] = M := ⟨_, rfl⟩
  have hs4 : M4.size ≤ 1000000000 := by rw [← hM4]; exact ack_size (by have := HE.out; omega) (by have := HE.out; have := HV.out; omega)
  have K13 : Hid (∀ w, Calls Try.prog 13 #[.agg #[.int .u64 (i : Int), .int .u64 (ver : Int), .int .u64 (n0 : Int), .int .u64 (nw : Int), .string r0, .bool false, .int .u64 2, .int .u64 9, .int .i64 t0], .int .u64 (nw : Int)] w fun z w' => z = .returned (.tuple #[.agg #[.int .u64 (i1 : Int), .int .u64 (ver : Int), .int .u64 0, .int .u64 (nw : Int), .string ⟨#[]⟩, .bool true, .int .u64 2, .int .u64 9, .int .i64 t0], .string M1]) ∧ Below w.heap.size w w') := Lib.hid (fun w => c_tick (b := 2) (c := 9) (by have := HE.out; omega) HE.out.1 (by have := HV.out; omega) HV.out.2.1 (by have := HE.out; omega) (by omega) (by omega) HV.out.2.2 hM1 w)
  have K9 : Hid (∀ w, Calls Try.prog 9 #[.string M1] w fun z w' => ∃ ρ o cap, z = .returned (.tuple #[.int .i64 1, .int .u64 (i1 : Int), .slice o 1 cap, .string ⟨#[]⟩, .int .i64 0]) ∧ PaW w ρ o cap [ver] w') := Lib.hid (fun w => c_read (by have := HE.out; omega) (by have := HV.out; omega) hM1 w)
  have K7a := Lib.hid (fun wz B hB => c_msg (q := i) (p1 := 1) (p2 := 1) (by have := HE.out; omega) (by omega) (by omega) hM2 wz B hB)
  have K14a := Lib.hid (fun w => c_stale (b := 2) (c := 9) (t := t0) (nw := nw) (ver := ver) (by have := HE.out; omega) HE.out.1 (by have := HV.out; omega) (by have := HE.out; omega) (by omega) (by omega) hM2 w)
  have K7b := Lib.hid (fun wz B hB => c_msg (q := i1) (p1 := vn) (p2 := 1) (by have := HE.out; omega) (by have := HE.out; omega) (by omega) hM3 wz B hB)
  have K14b := Lib.hid (fun w => c_take (b := 2) (c := 9) (t := t0) (nw := nw) (ver := ver) (by have := HE.out; omega) (by have := HV.out; omega) (by have := HE.out; omega) (by have := HE.out; omega) (by omega) (by omega) hM3 w)
  have K15 : Hid (∀ w, Calls Try.prog 15 #[.agg #[.int .u64 (i1 : Int), .int .u64 (ver : Int), .int .u64 1, .int .u64 (nw : Int), .string ⟨#[]⟩, .bool true, .int .u64 2, .int .u64 9, .int .i64 0], .agg #[.int .u64 (vn : Int), .int .u64 1, .string ⟨#[120]⟩], .int .i64 0] w fun z w' => z = .returned (.tuple #[.agg #[.int .u64 (i1 : Int), .int .u64 (vn : Int), .int .u64 1, .int .u64 (nw : Int), .string M4, .bool true, .int .u64 2, .int .u64 9, .int .i64 0], .string M4]) ∧ Below w.heap.size w w') := Lib.hid (fun w => c_ack (b := 2) (c := 9) (by have := HE.out; omega) (by have := HV.out; omega) (by have := HE.out; omega) (by have := HE.out; omega) (by omega) (by omega) hM4 hs4 w)
  have K16 : Hid (∀ w, Calls Try.prog 16 #[.agg #[.int .u64 (i1 : Int), .int .u64 (vn : Int), .int .u64 1, .int .u64 (nw : Int), .string M4, .bool true, .int .u64 2, .int .u64 9, .int .i64 0], .int .u64 (nw : Int)] w fun z w' => z = .returned (.agg #[.int .u64 (i1 : Int), .int .u64 (vn : Int), .int .u64 1, .int .u64 (nx : Int), .string M4, .bool false, .int .u64 2, .int .u64 9, .int .i64 1]) ∧ Below w.heap.size w w') := Lib.hid (fun w => c_lost (by have := HE.out; omega) (by have := HE.out; have := HV.out; omega) (by have := HE.out; omega) HE.out.2.2.2.1 hs4 w)
  obtain ⟨ny, hny⟩ : ∃ ny, ny = nw + 1 := ⟨_, rfl⟩
  have K13b : Hid (∀ w, Calls Try.prog 13 #[.agg #[.int .u64 (i1 : Int), .int .u64 (vn : Int), .int .u64 1, .int .u64 (nx : Int), .string M4, .bool false, .int .u64 2, .int .u64 9, .int .i64 1], .int .u64 (ny : Int)] w fun z w' => z = .returned (.tuple #[.agg #[.int .u64 (i1 : Int), .int .u64 (vn : Int), .int .u64 1, .int .u64 (nx : Int), .string M4, .bool false, .int .u64 2, .int .u64 9, .int .i64 1], .string ⟨#[]⟩]) ∧ Below w.heap.size w w') := Lib.hid (fun w => c_wait (by have := HE.out; omega) (by have := HE.out; have := HV.out; omega) (by have := HE.out; omega) (by have := HE.out; omega) hs4 w)
  have HY := Lib.hid hny
  have HS4 := Lib.hid hs4
  clear hny hs4 hM1 hM2 hM3 hM4
  have q1 : (i : Int) < (m : Int) := by omega
  obtain ⟨⟨c0, c1, c2, c3, c4, c5, c6, c7, c8⟩, f0, f1, f2, f3, f4, f5, f6, f7, f8⟩ := nine HN.out
  go_upto_region 10 with (first
    | (go_at_call 13; ((with_reducible refine (K13.out _).mono ?_); rintro z w1 ⟨rfl, hb1⟩; have HW1 := Lib.hid hb1; clear c0 c1 c2 c3 c4 c5 c6 c7 c8 f0 f1 f2 f3 f4 f5 f6 f7 f8; obtain ⟨⟨c0, c1, c2, c3, c4, c5, c6, c7, c8⟩, f0, f1, f2, f3, f4, f5, f6, f7, f8⟩ := nine (N9.later HN.out hb1); clear hb1)))
  have HN2 := Lib.hid (N9.put (N9.later HN.out HW1.out) (.int .u64 (i1 : Int)) (.int .u64 (ver : Int)) (.int .u64 0) (.int .u64 (nw : Int)) (.string ⟨#[]⟩) (.bool true) (.int .u64 2) (.int .u64 9) (.int .i64 t0))
  have HB2 := Lib.hid (set9 HG.out (HB.out.trans (HW1.out.mono HB.out.size)) (.int .u64 (i1 : Int)) (.int .u64 (ver : Int)) (.int .u64 0) (.int .u64 (nw : Int)) (.string ⟨#[]⟩) (.bool true) (.int .u64 2) (.int .u64 9) (.int .i64 t0))
  generalize (((((((((w1.setCell ⟨g5, 0, none⟩ (.int .u64 (i1 : Int))).setCell ⟨g5, 1, none⟩ (.int .u64 (ver : Int))).setCell ⟨g5, 2, none⟩ (.int .u64 0)).setCell ⟨g5, 3, none⟩ (.int .u64 (nw : Int))).setCell ⟨g5, 4, none⟩ (.string ⟨#[]⟩)).setCell ⟨g5, 5, none⟩ (.bool true)).setCell ⟨g5, 6, none⟩ (.int .u64 2)).setCell ⟨g5, 7, none⟩ (.int .u64 9)).setCell ⟨g5, 8, none⟩ (.int .i64 t0)) = w2 at *
  clear c0 c1 c2 c3 c4 c5 c6 c7 c8 f0 f1 f2 f3 f4 f5 f6 f7 f8
  obtain ⟨⟨c0, c1, c2, c3, c4, c5, c6, c7, c8⟩, f0, f1, f2, f3, f4, f5, f6, f7, f8⟩ := nine HN2.out
  clear HN HB HW1 K13
  have e1 : (i : Int) + 1 = (i1 : Int) := by have := HE.out.1; omega
  have ew1 : IntKind.u64.wrap (i1 : Int) = (i1 : Int) := IntWalk.u64_in _ ⟨by omega, by have := HE.out; omega⟩
  have ew0 : IntKind.u64.wrap (i : Int) = (i : Int) := IntWalk.u64_in _ ⟨by omega, by have := HE.out; omega⟩
  go_upto_region 13 with (first
    | (go_at_call 9; ((with_reducible refine (K9.out _).mono ?_); rintro z w3 ⟨ρ, oN, capN, rfl, hpa⟩; obtain ⟨rr, hrr, horr, hc⟩ := hpa.2.1.cell 0 (by simp); subst horr; simp only [List.getElem_cons_zero] at hc; have HW3 := Lib.hid hpa.1; clear c0 c1 c2 c3 c4 c5 c6 c7 c8 f0 f1 f2 f3 f4 f5 f6 f7 f8; obtain ⟨⟨c0, c1, c2, c3, c4, c5, c6, c7, c8⟩, f0, f1, f2, f3, f4, f5, f6, f7, f8⟩ := nine (N9.later HN2.out hpa.1); clear hpa hrr)))
  have HN3 := Lib.hid (N9.later HN2.out HW3.out)
  have HB3 := Lib.hid (HB2.out.trans (HW3.out.mono HB2.out.size))
  clear hc HN2 HB2 HW3 K9
  clear c0 c1 c2 c3 c4 c5 c6 c7 c8 f0 f1 f2 f3 f4 f5 f6 f7 f8
  refine Code.wp_mono (fun ee a' w' h => ?_) (reg13' rfl (q1 := i1) (q := i) (p1 := 1) (p2 := 1) (by have := HE.out; omega) (by have := HE.out; omega) rfl rfl HN3 K7a K14a)
  obtain ⟨rfl, gA, gO, hRR⟩ := h
  obtain ⟨u2, hu2⟩ : ∃ u2, a' = _ := ⟨_, hRR.fr⟩
  subst hu2
  have HN4 := Lib.hid (N9.later HN3.out hRR.B)
  have HB4 := Lib.hid (HB3.out.trans (hRR.B.mono HB3.out.size))
  clear hRR HN3 HB3
  unfold fe
  simp only [Exit.then]
  apply_assumption
  obtain ⟨⟨c0, c1, c2, c3, c4, c5, c6, c7, c8⟩, f0, f1, f2, f3, f4, f5, f6, f7, f8⟩ := nine HN4.out
  go_upto_region 16 with fail
  clear c0 c1 c2 c3 c4 c5 c6 c7 c8 f0 f1 f2 f3 f4 f5 f6 f7 f8
  refine Code.wp_mono (fun ee a' w' h => ?_) (reg16' rfl (i := i) (q := i1) (p1 := vn) (p2 := 1) (by have := HE.out; omega) HE.out.2.1 rfl HN4 K7b K14b)
  obtain ⟨rfl, gA, gO, hRR⟩ := h
  obtain ⟨u3, hu3⟩ : ∃ u3, a' = _ := ⟨_, hRR.fr⟩
  subst hu3
  have HN5 := Lib.hid (N9.later HN4.out hRR.B)
  have HA5 : Hid (N9 w' gA (.int .u64 (i1 : Int)) (.int .u64 (ver : Int)) (.int .u64 1) (.int .u64 (nw : Int)) (.string ⟨#[]⟩) (.bool true) (.int .u64 2) (.int .u64 9) (.int .i64 0)) := Lib.hid hRR.A
  have HO5 : Hid (w'.heap[gO]? = some (.cells #[.int .u64 (vn : Int), .int .u64 1, .string ⟨#[120]⟩] 47 (0, 0))) := Lib.hid hRR.O
  have HB5 := Lib.hid (HB4.out.trans (hRR.B.mono HB4.out.size))
  clear hRR HN4 HB4
  unfold fe
  simp only [Exit.then]
  apply_assumption
  obtain ⟨⟨c0, c1, c2, c3, c4, c5, c6, c7, c8⟩, f0, f1, f2, f3, f4, f5, f6, f7, f8⟩ := nine HN5.out
  obtain ⟨⟨d0, d1, d2, d3, d4, d5, d6, d7, d8⟩, _⟩ := nine HA5.out
  obtain ⟨⟨m0, m1, m2⟩, _⟩ := three HO5.out
  go_upto_region 18 with fail
  rw [bit_of hcd hbit]
  go_upto_region 19 with (first
    | (go_at_call 15; ((with_reducible refine (K15.out _).mono ?_); rintro z w5 ⟨rfl, hb5⟩; have HW5 := Lib.hid hb5; clear c0 c1 c2 c3 c4 c5 c6 c7 c8 f0 f1 f2 f3 f4 f5 f6 f7 f8; clear d0 d1 d2 d3 d4 d5 d6 d7 d8 m0 m1 m2; obtain ⟨⟨c0, c1, c2, c3, c4, c5, c6, c7, c8⟩, f0, f1, f2, f3, f4, f5, f6, f7, f8⟩ := nine (N9.later HN5.out hb5); clear hb5)))
  have HN6 := Lib.hid (N9.put (N9.later HN5.out HW5.out) (.int .u64 (i1 : Int)) (.int .u64 (vn : Int)) (.int .u64 1) (.int .u64 (nw : Int)) (.string M4) (.bool true) (.int .u64 2) (.int .u64 9) (.int .i64 0))
  have HB6 := Lib.hid (set9 HG.out (HB5.out.trans (HW5.out.mono HB5.out.size)) (.int .u64 (i1 : Int)) (.int .u64 (vn : Int)) (.int .u64 1) (.int .u64 (nw : Int)) (.string M4) (.bool true) (.int .u64 2) (.int .u64 9) (.int .i64 0))
  generalize (((((((((w5.setCell ⟨g5, 0, none⟩ (.int .u64 (i1 : Int))).setCell ⟨g5, 1, none⟩ (.int .u64 (vn : Int))).setCell ⟨g5, 2, none⟩ (.int .u64 1)).setCell ⟨g5, 3, none⟩ (.int .u64 (nw : Int))).setCell ⟨g5, 4, none⟩ (.string M4)).setCell ⟨g5, 5, none⟩ (.bool true)).setCell ⟨g5, 6, none⟩ (.int .u64 2)).setCell ⟨g5, 7, none⟩ (.int .u64 9)).setCell ⟨g5, 8, none⟩ (.int .i64 0)) = w6 at *
  clear c0 c1 c2 c3 c4 c5 c6 c7 c8 f0 f1 f2 f3 f4 f5 f6 f7 f8
  obtain ⟨⟨c0, c1, c2, c3, c4, c5, c6, c7, c8⟩, f0, f1, f2, f3, f4, f5, f6, f7, f8⟩ := nine HN6.out
  clear HN5 HB5 HW5 HA5 HO5 K15
  have es : (100 : Int) + (i : Int) = (vn : Int) := by have := HE.out.2.1; omega
  have ews : IntKind.u64.wrap (vn : Int) = (vn : Int) := IntWalk.u64_in _ ⟨by omega, by have := HE.out; omega⟩
  go_upto_region 25 with fail
  clear es ews
  go_upto_region 26 with (first
    | (go_at_call 16; ((with_reducible refine (K16.out _).mono ?_); rintro z w7 ⟨rfl, hb7⟩; have HW7 := Lib.hid hb7; clear c0 c1 c2 c3 c4 c5 c6 c7 c8 f0 f1 f2 f3 f4 f5 f6 f7 f8; obtain ⟨⟨c0, c1, c2, c3, c4, c5, c6, c7, c8⟩, f0, f1, f2, f3, f4, f5, f6, f7, f8⟩ := nine (N9.later HN6.out hb7); clear hb7)))
  have HN8 := Lib.hid (N9.put (N9.later HN6.out HW7.out) (.int .u64 (i1 : Int)) (.int .u64 (vn : Int)) (.int .u64 1) (.int .u64 (nx : Int)) (.string M4) (.bool false) (.int .u64 2) (.int .u64 9) (.int .i64 1))
  have HB8 := Lib.hid (set9 HG.out (HB6.out.trans (HW7.out.mono HB6.out.size)) (.int .u64 (i1 : Int)) (.int .u64 (vn : Int)) (.int .u64 1) (.int .u64 (nx : Int)) (.string M4) (.bool false) (.int .u64 2) (.int .u64 9) (.int .i64 1))
  generalize (((((((((w7.setCell ⟨g5, 0, none⟩ (.int .u64 (i1 : Int))).setCell ⟨g5, 1, none⟩ (.int .u64 (vn : Int))).setCell ⟨g5, 2, none⟩ (.int .u64 1)).setCell ⟨g5, 3, none⟩ (.int .u64 (nx : Int))).setCell ⟨g5, 4, none⟩ (.string M4)).setCell ⟨g5, 5, none⟩ (.bool false)).setCell ⟨g5, 6, none⟩ (.int .u64 2)).setCell ⟨g5, 7, none⟩ (.int .u64 9)).setCell ⟨g5, 8, none⟩ (.int .i64 1)) = w8 at *
  clear c0 c1 c2 c3 c4 c5 c6 c7 c8 f0 f1 f2 f3 f4 f5 f6 f7 f8
  obtain ⟨⟨c0, c1, c2, c3, c4, c5, c6, c7, c8⟩, f0, f1, f2, f3, f4, f5, f6, f7, f8⟩ := nine HN8.out
  clear HN6 HB6 HW7 K16
  have el : decide (nx ≤ nw) = false := by rw [decide_eq_false_iff_not]; have := HE.out; omega
  have ey : (nx : Int) - 1 = (ny : Int) := by have := HE.out; have := HY.out; omega
  have ewy : IntKind.u64.wrap (ny : Int) = (ny : Int) := IntWalk.u64_in _ ⟨by omega, by have := HE.out; have := HY.out; omega⟩
  have ew8 : IntKind.u8.wrap (i1 : Int) = (i1 : Int) := by rw [IntKind.wrap_u8]; have := HE.out; omega
  go_upto_region 28 with fail
  go_wp2_with (first
    | (go_at_call 13; ((with_reducible refine (K13b.out _).mono ?_); rintro z w9 ⟨rfl, hb9⟩; have HN9 := Lib.hid ((N9.later HN8.out hb9).later (alloc_below w9 (.cells #[.int .u64 (i1 : Int), .int .u64 (vn : Int), .int .u64 1, .int .u64 (nx : Int), .string M4, .bool false, .int .u64 2, .int .u64 9, .int .i64 1] 39))); have HB9 := Lib.hid ((HB8.out.trans (hb9.mono HB8.out.size)).trans ((alloc_below w9 (.cells #[.int .u64 (i1 : Int), .int .u64 (vn : Int), .int .u64 1, .int .u64 (nx : Int), .string M4, .bool false, .int .u64 2, .int .u64 9, .int .i64 1] 39)).mono (HB8.out.trans (hb9.mono HB8.out.size)).size)); clear c0 c1 c2 c3 c4 c5 c6 c7 c8 f0 f1 f2 f3 f4 f5 f6 f7 f8; obtain ⟨⟨c0, c1, c2, c3, c4, c5, c6, c7, c8⟩, f0, f1, f2, f3, f4, f5, f6, f7, f8⟩ := nine HN9.out; clear hb9)))
  refine ⟨WI5.mk i1 vn 1 nx M4 1 rfl rfl rfl rfl (by have := HE.out; omega) (by have := HE.out; omega) (by have := HE.out; have := HV.out; omega) (by omega) HS4.out HN9 HB9, ?_⟩
  have h1 := HE.out
  show m - (intOf (.int .u8 (i1 : Int))).toNat < m - i
  simp [intOf]; omega
set_option maxRecDepth 1000000 in
set_option maxHeartbeats 64000000 in
theorem round_nack {w wr : World} {g5 rd cd m i i1 ver vn nw nx n0 : Nat} {r0 : ByteArray} {t0 : Int} {x8 x11 x18 x19 x20 x22 : Value} {u : Nat → Value} {Q0 : Exit → Act → World → Prop}
    (HE : Hid (i1 = i + 1 ∧ vn = 100 + i ∧ nw = 2 * i ∧ nx = nw + 2 ∧ i ≤ 11)) (HV : Hid (ver ≤ 900 ∧ n0 ≤ 1000 ∧ r0.size ≤ 1000000000)) (hm : m ≤ 11) (him : i < m) (hcd : cd ≤ 65535) (hbit : cd / 2 ^ i % 2 = 1)
    (HG : Hid (w.heap.size ≤ g5)) (HN : Hid (N9 wr g5 (.int .u64 (i : Int)) (.int .u64 (ver : Int)) (.int .u64 (n0 : Int)) (.int .u64 (nw : Int)) (.string r0) (.bool false) (.int .u64 2) (.int .u64 9) (.int .i64 t0))) (HB : Hid (Below w.heap.size w wr)) :
    Code.wp Try.prog body5 (Exit.then (fun a' w'' => WI5 g5 rd cd m w a' w'' ∧ Wmu5 m a' < m - i) Q0) (fe g5 (.int .u8 (rd : Int)) (.int .u16 (cd : Int)) (.int .u64 (nw : Int)) (.int .u64 (ver : Int)) x8 x11 x18 x19 x20 x22 (.int .u8 (m : Int)) (.int .u8 (i : Int)) u) wr := by
  conv => arg 2; whnf
  unfold fe
  obtain ⟨M1, hM1⟩ : ∃ M, msgV 1 i1 ⟨#[]⟩ [ver] = M := ⟨_, rfl⟩
  obtain ⟨M2, hM2⟩ : ∃ M, msgV 2 i ⟨#[120]⟩ [1, 1] = M := ⟨_, rfl⟩
  obtain ⟨M3, hM3⟩ : ∃ M, msgV 2 i1 ⟨#[120]⟩ [vn, 1] = M := ⟨_, rfl⟩
  obtain ⟨M4, hM4⟩ : ∃ M, msgV 4 i1 ⟨#[]⟩ [ver, 1, 1] = M := ⟨_, rfl⟩
  have hs4 : M4.size ≤ 1000000000 := by rw [← hM4]; exact nack_size (by have := HE.out; omega) (by have := HE.out; have := HV.out; omega)
  have K13 : Hid (∀ w, Calls Try.prog 13 #[.agg #[.int .u64 (i : Int), .int .u64 (ver : Int), .int .u64 (n0 : Int), .int .u64 (nw : Int), .string r0, .bool false, .int .u64 2, .int .u64 9, .int .i64 t0], .int .u64 (nw : Int)] w fun z w' => z = .returned (.tuple #[.agg #[.int .u64 (i1 : Int), .int .u64 (ver : Int), .int .u64 0, .int .u64 (nw : Int), .string ⟨#[]⟩, .bool true, .int .u64 2, .int .u64 9, .int .i64 t0], .string M1]) ∧ Below w.heap.size w w') := Lib.hid (fun w => c_tick (b := 2) (c := 9) (by have := HE.out; omega) HE.out.1 (by have := HV.out; omega) HV.out.2.1 (by have := HE.out; omega) (by omega) (by omega) HV.out.2.2 hM1 w)
  have K9 : Hid (∀ w, Calls Try.prog 9 #[.string M1] w fun z w' => ∃ ρ o cap, z = .returned (.tuple #[.int .i64 1, .int .u64 (i1 : Int), .slice o 1 cap, .string ⟨#[]⟩, .int .i64 0]) ∧ PaW w ρ o cap [ver] w') := Lib.hid (fun w => c_read (by have := HE.out; omega) (by have := HV.out; omega) hM1 w)
  have K7a := Lib.hid (fun wz B hB => c_msg (q := i) (p1 := 1) (p2 := 1) (by have := HE.out; omega) (by omega) (by omega) hM2 wz B hB)
  have K14a := Lib.hid (fun w => c_stale (b := 2) (c := 9) (t := t0) (nw := nw) (ver := ver) (by have := HE.out; omega) HE.out.1 (by have := HV.out; omega) (by have := HE.out; omega) (by omega) (by omega) hM2 w)
  have K7b := Lib.hid (fun wz B hB => c_msg (q := i1) (p1 := vn) (p2 := 1) (by have := HE.out; omega) (by have := HE.out; omega) (by omega) hM3 wz B hB)
  have K14b := Lib.hid (fun w => c_take (b := 2) (c := 9) (t := t0) (nw := nw) (ver := ver) (by have := HE.out; omega) (by have := HV.out; omega) (by have := HE.out; omega) (by have := HE.out; omega) (by omega) (by omega) hM3 w)
  have K15 : Hid (∀ w, Calls Try.prog 15 #[.agg #[.int .u64 (i1 : Int), .int .u64 (ver : Int), .int .u64 1, .int .u64 (nw : Int), .string ⟨#[]⟩, .bool true, .int .u64 2, .int .u64 9, .int .i64 0], .agg #[.int .u64 (vn : Int), .int .u64 1, .string ⟨#[120]⟩], .int .i64 1] w fun z w' => z = .returned (.tuple #[.agg #[.int .u64 (i1 : Int), .int .u64 (ver : Int), .int .u64 1, .int .u64 (nw : Int), .string M4, .bool true, .int .u64 2, .int .u64 9, .int .i64 0], .string M4]) ∧ Below w.heap.size w w') := Lib.hid (fun w => c_nack (vn := vn) (b := 2) (c := 9) (by have := HE.out; omega) (by have := HV.out; omega) (by have := HE.out; omega) (by have := HE.out; omega) (by omega) (by omega) hM4 hs4 w)
  have K16 : Hid (∀ w, Calls Try.prog 16 #[.agg #[.int .u64 (i1 : Int), .int .u64 (ver : Int), .int .u64 1, .int .u64 (nw : Int), .string M4, .bool true, .int .u64 2, .int .u64 9, .int .i64 0], .int .u64 (nw : Int)] w fun z w' => z = .returned (.agg #[.int .u64 (i1 : Int), .int .u64 (ver : Int), .int .u64 1, .int .u64 (nx : Int), .string M4, .bool false, .int .u64 2, .int .u64 9, .int .i64 1]) ∧ Below w.heap.size w w') := Lib.hid (fun w => c_lost (by have := HE.out; omega) (by have := HE.out; have := HV.out; omega) (by have := HE.out; omega) HE.out.2.2.2.1 hs4 w)
  obtain ⟨ny, hny⟩ : ∃ ny, ny = nw + 1 := ⟨_, rfl⟩
  have K13b : Hid (∀ w, Calls Try.prog 13 #[.agg #[.int .u64 (i1 : Int), .int .u64 (ver : Int), .int .u64 1, .int .u64 (nx : Int), .string M4, .bool false, .int .u64 2, .int .u64 9, .int .i64 1], .int .u64 (ny : Int)] w fun z w' => z = .returned (.tuple #[.agg #[.int .u64 (i1 : Int), .int .u64 (ver : Int), .int .u64 1, .int .u64 (nx : Int), .string M4, .bool false, .int .u64 2, .int .u64 9, .int .i64 1], .string ⟨#[]⟩]) ∧ Below w.heap.size w w') := Lib.hid (fun w => c_wait (by have := HE.out; omega) (by have := HE.out; have := HV.out; omega) (by have := HE.out; omega) (by have := HE.out; omega) hs4 w)
  have HY := Lib.hid hny
  have HS4 := Lib.hid hs4
  clear hny hs4 hM1 hM2 hM3 hM4
  have q1 : (i : Int) < (m : Int) := by omega
  obtain ⟨⟨c0, c1, c2, c3, c4, c5, c6, c7, c8⟩, f0, f1, f2, f3, f4, f5, f6, f7, f8⟩ := nine HN.out
  go_upto_region 10 with (first
    | (go_at_call 13; ((with_reducible refine (K13.out _).mono ?_); rintro z w1 ⟨rfl, hb1⟩; have HW1 := Lib.hid hb1; clear c0 c1 c2 c3 c4 c5 c6 c7 c8 f0 f1 f2 f3 f4 f5 f6 f7 f8; obtain ⟨⟨c0, c1, c2, c3, c4, c5, c6, c7, c8⟩, f0, f1, f2, f3, f4, f5, f6, f7, f8⟩ := nine (N9.later HN.out hb1); clear hb1)))
  have HN2 := Lib.hid (N9.put (N9.later HN.out HW1.out) (.int .u64 (i1 : Int)) (.int .u64 (ver : Int)) (.int .u64 0) (.int .u64 (nw : Int)) (.string ⟨#[]⟩) (.bool true) (.int .u64 2) (.int .u64 9) (.int .i64 t0))
  have HB2 := Lib.hid (set9 HG.out (HB.out.trans (HW1.out.mono HB.out.size)) (.int .u64 (i1 : Int)) (.int .u64 (ver : Int)) (.int .u64 0) (.int .u64 (nw : Int)) (.string ⟨#[]⟩) (.bool true) (.int .u64 2) (.int .u64 9) (.int .i64 t0))
  generalize (((((((((w1.setCell ⟨g5, 0, none⟩ (.int .u64 (i1 : Int))).setCell ⟨g5, 1, none⟩ (.int .u64 (ver : Int))).setCell ⟨g5, 2, none⟩ (.int .u64 0)).setCell ⟨g5, 3, none⟩ (.int .u64 (nw : Int))).setCell ⟨g5, 4, none⟩ (.string ⟨#[]⟩)).setCell ⟨g5, 5, none⟩ (.bool true)).setCell ⟨g5, 6, none⟩ (.int .u64 2)).setCell ⟨g5, 7, none⟩ (.int .u64 9)).setCell ⟨g5, 8, none⟩ (.int .i64 t0)) = w2 at *
  clear c0 c1 c2 c3 c4 c5 c6 c7 c8 f0 f1 f2 f3 f4 f5 f6 f7 f8
  obtain ⟨⟨c0, c1, c2, c3, c4, c5, c6, c7, c8⟩, f0, f1, f2, f3, f4, f5, f6, f7, f8⟩ := nine HN2.out
  clear HN HB HW1 K13
  have e1 : (i : Int) + 1 = (i1 : Int) := by have := HE.out.1; omega
  have ew1 : IntKind.u64.wrap (i1 : Int) = (i1 : Int) := IntWalk.u64_in _ ⟨by omega, by have := HE.out; omega⟩
  have ew0 : IntKind.u64.wrap (i : Int) = (i : Int) := IntWalk.u64_in _ ⟨by omega, by have := HE.out; omega⟩
  go_upto_region 13 with (first
    | (go_at_call 9; ((with_reducible refine (K9.out _).mono ?_); rintro z w3 ⟨ρ, oN, capN, rfl, hpa⟩; obtain ⟨rr, hrr, horr, hc⟩ := hpa.2.1.cell 0 (by simp); subst horr; simp only [List.getElem_cons_zero] at hc; have HW3 := Lib.hid hpa.1; clear c0 c1 c2 c3 c4 c5 c6 c7 c8 f0 f1 f2 f3 f4 f5 f6 f7 f8; obtain ⟨⟨c0, c1, c2, c3, c4, c5, c6, c7, c8⟩, f0, f1, f2, f3, f4, f5, f6, f7, f8⟩ := nine (N9.later HN2.out hpa.1); clear hpa hrr)))
  have HN3 := Lib.hid (N9.later HN2.out HW3.out)
  have HB3 := Lib.hid (HB2.out.trans (HW3.out.mono HB2.out.size))
  clear hc HN2 HB2 HW3 K9
  clear c0 c1 c2 c3 c4 c5 c6 c7 c8 f0 f1 f2 f3 f4 f5 f6 f7 f8
  refine Code.wp_mono (fun ee a' w' h => ?_) (reg13' rfl (q1 := i1) (q := i) (p1 := 1) (p2 := 1) (by have := HE.out; omega) (by have := HE.out; omega) rfl rfl HN3 K7a K14a)
  obtain ⟨rfl, gA, gO, hRR⟩ := h
  obtain ⟨u2, hu2⟩ : ∃ u2, a' = _ := ⟨_, hRR.fr⟩
  subst hu2
  have HN4 := Lib.hid (N9.later HN3.out hRR.B)
  have HB4 := Lib.hid (HB3.out.trans (hRR.B.mono HB3.out.size))
  clear hRR HN3 HB3
  unfold fe
  simp only [Exit.then]
  apply_assumption
  obtain ⟨⟨c0, c1, c2, c3, c4, c5, c6, c7, c8⟩, f0, f1, f2, f3, f4, f5, f6, f7, f8⟩ := nine HN4.out
  go_upto_region 16 with fail
  clear c0 c1 c2 c3 c4 c5 c6 c7 c8 f0 f1 f2 f3 f4 f5 f6 f7 f8
  refine Code.wp_mono (fun ee a' w' h => ?_) (reg16' rfl (i := i) (q := i1) (p1 := vn) (p2 := 1) (by have := HE.out; omega) HE.out.2.1 rfl HN4 K7b K14b)
  obtain ⟨rfl, gA, gO, hRR⟩ := h
  obtain ⟨u3, hu3⟩ : ∃ u3, a' = _ := ⟨_, hRR.fr⟩
  subst hu3
  have HN5 := Lib.hid (N9.later HN4.out hRR.B)
  have HA5 : Hid (N9 w' gA (.int .u64 (i1 : Int)) (.int .u64 (ver : Int)) (.int .u64 1) (.int .u64 (nw : Int)) (.string ⟨#[]⟩) (.bool true) (.int .u64 2) (.int .u64 9) (.int .i64 0)) := Lib.hid hRR.A
  have HO5 : Hid (w'.heap[gO]? = some (.cells #[.int .u64 (vn : Int), .int .u64 1, .string ⟨#[120]⟩] 47 (0, 0))) := Lib.hid hRR.O
  have HB5 := Lib.hid (HB4.out.trans (hRR.B.mono HB4.out.size))
  clear hRR HN4 HB4
  unfold fe
  simp only [Exit.then]
  apply_assumption
  obtain ⟨⟨c0, c1, c2, c3, c4, c5, c6, c7, c8⟩, f0, f1, f2, f3, f4, f5, f6, f7, f8⟩ := nine HN5.out
  obtain ⟨⟨d0, d1, d2, d3, d4, d5, d6, d7, d8⟩, _⟩ := nine HA5.out
  obtain ⟨⟨m0, m1, m2⟩, _⟩ := three HO5.out
  go_upto_region 18 with fail
  rw [bit_of hcd hbit]
  go_upto_region 19 with (first
    | (go_at_call 15; ((with_reducible refine (K15.out _).mono ?_); rintro z w5 ⟨rfl, hb5⟩; have HW5 := Lib.hid hb5; clear c0 c1 c2 c3 c4 c5 c6 c7 c8 f0 f1 f2 f3 f4 f5 f6 f7 f8; clear d0 d1 d2 d3 d4 d5 d6 d7 d8 m0 m1 m2; obtain ⟨⟨c0, c1, c2, c3, c4, c5, c6, c7, c8⟩, f0, f1, f2, f3, f4, f5, f6, f7, f8⟩ := nine (N9.later HN5.out hb5); clear hb5)))
  have HN6 := Lib.hid (N9.put (N9.later HN5.out HW5.out) (.int .u64 (i1 : Int)) (.int .u64 (ver : Int)) (.int .u64 1) (.int .u64 (nw : Int)) (.string M4) (.bool true) (.int .u64 2) (.int .u64 9) (.int .i64 0))
  have HB6 := Lib.hid (set9 HG.out (HB5.out.trans (HW5.out.mono HB5.out.size)) (.int .u64 (i1 : Int)) (.int .u64 (ver : Int)) (.int .u64 1) (.int .u64 (nw : Int)) (.string M4) (.bool true) (.int .u64 2) (.int .u64 9) (.int .i64 0))
  generalize (((((((((w5.setCell ⟨g5, 0, none⟩ (.int .u64 (i1 : Int))).setCell ⟨g5, 1, none⟩ (.int .u64 (ver : Int))).setCell ⟨g5, 2, none⟩ (.int .u64 1)).setCell ⟨g5, 3, none⟩ (.int .u64 (nw : Int))).setCell ⟨g5, 4, none⟩ (.string M4)).setCell ⟨g5, 5, none⟩ (.bool true)).setCell ⟨g5, 6, none⟩ (.int .u64 2)).setCell ⟨g5, 7, none⟩ (.int .u64 9)).setCell ⟨g5, 8, none⟩ (.int .i64 0)) = w6 at *
  clear c0 c1 c2 c3 c4 c5 c6 c7 c8 f0 f1 f2 f3 f4 f5 f6 f7 f8
  obtain ⟨⟨c0, c1, c2, c3, c4, c5, c6, c7, c8⟩, f0, f1, f2, f3, f4, f5, f6, f7, f8⟩ := nine HN6.out
  clear HN5 HB5 HW5 HA5 HO5 K15
  have es : (100 : Int) + (i : Int) = (vn : Int) := by have := HE.out.2.1; omega
  have ews : IntKind.u64.wrap (vn : Int) = (vn : Int) := IntWalk.u64_in _ ⟨by omega, by have := HE.out; omega⟩
  go_upto_region 25 with fail
  clear es ews
  go_upto_region 26 with (first
    | (go_at_call 16; ((with_reducible refine (K16.out _).mono ?_); rintro z w7 ⟨rfl, hb7⟩; have HW7 := Lib.hid hb7; clear c0 c1 c2 c3 c4 c5 c6 c7 c8 f0 f1 f2 f3 f4 f5 f6 f7 f8; obtain ⟨⟨c0, c1, c2, c3, c4, c5, c6, c7, c8⟩, f0, f1, f2, f3, f4, f5, f6, f7, f8⟩ := nine (N9.later HN6.out hb7); clear hb7)))
  have HN8 := Lib.hid (N9.put (N9.later HN6.out HW7.out) (.int .u64 (i1 : Int)) (.int .u64 (ver : Int)) (.int .u64 1) (.int .u64 (nx : Int)) (.string M4) (.bool false) (.int .u64 2) (.int .u64 9) (.int .i64 1))
  have HB8 := Lib.hid (set9 HG.out (HB6.out.trans (HW7.out.mono HB6.out.size)) (.int .u64 (i1 : Int)) (.int .u64 (ver : Int)) (.int .u64 1) (.int .u64 (nx : Int)) (.string M4) (.bool false) (.int .u64 2) (.int .u64 9) (.int .i64 1))
  generalize (((((((((w7.setCell ⟨g5, 0, none⟩ (.int .u64 (i1 : Int))).setCell ⟨g5, 1, none⟩ (.int .u64 (ver : Int))).setCell ⟨g5, 2, none⟩ (.int .u64 1)).setCell ⟨g5, 3, none⟩ (.int .u64 (nx : Int))).setCell ⟨g5, 4, none⟩ (.string M4)).setCell ⟨g5, 5, none⟩ (.bool false)).setCell ⟨g5, 6, none⟩ (.int .u64 2)).setCell ⟨g5, 7, none⟩ (.int .u64 9)).setCell ⟨g5, 8, none⟩ (.int .i64 1)) = w8 at *
  clear c0 c1 c2 c3 c4 c5 c6 c7 c8 f0 f1 f2 f3 f4 f5 f6 f7 f8
  obtain ⟨⟨c0, c1, c2, c3, c4, c5, c6, c7, c8⟩, f0, f1, f2, f3, f4, f5, f6, f7, f8⟩ := nine HN8.out
  clear HN6 HB6 HW7 K16
  have el : decide (nx ≤ nw) = false := by rw [decide_eq_false_iff_not]; have := HE.out; omega
  have ey : (nx : Int) - 1 = (ny : Int) := by have := HE.out; have := HY.out; omega
  have ewy : IntKind.u64.wrap (ny : Int) = (ny : Int) := IntWalk.u64_in _ ⟨by omega, by have := HE.out; have := HY.out; omega⟩
  have ew8 : IntKind.u8.wrap (i1 : Int) = (i1 : Int) := by rw [IntKind.wrap_u8]; have := HE.out; omega
  go_upto_region 28 with fail
  go_wp2_with (first
    | (go_at_call 13; ((with_reducible refine (K13b.out _).mono ?_); rintro z w9 ⟨rfl, hb9⟩; have HN9 := Lib.hid ((N9.later HN8.out hb9).later (alloc_below w9 (.cells #[.int .u64 (i1 : Int), .int .u64 (ver : Int), .int .u64 1, .int .u64 (nx : Int), .string M4, .bool false, .int .u64 2, .int .u64 9, .int .i64 1] 39))); have HB9 := Lib.hid ((HB8.out.trans (hb9.mono HB8.out.size)).trans ((alloc_below w9 (.cells #[.int .u64 (i1 : Int), .int .u64 (ver : Int), .int .u64 1, .int .u64 (nx : Int), .string M4, .bool false, .int .u64 2, .int .u64 9, .int .i64 1] 39)).mono (HB8.out.trans (hb9.mono HB8.out.size)).size)); clear c0 c1 c2 c3 c4 c5 c6 c7 c8 f0 f1 f2 f3 f4 f5 f6 f7 f8; obtain ⟨⟨c0, c1, c2, c3, c4, c5, c6, c7, c8⟩, f0, f1, f2, f3, f4, f5, f6, f7, f8⟩ := nine HN9.out; clear hb9)))
  refine ⟨WI5.mk i1 ver 1 nx M4 1 rfl rfl rfl rfl (by have := HE.out; omega) (by have := HE.out; omega) (by have := HE.out; have := HV.out; omega) (by omega) HS4.out HN9 HB9, ?_⟩
  have h1 := HE.out
  show m - (intOf (.int .u8 (i1 : Int))).toNat < m - i
  simp [intOf]; omega
end Go.Proofs.Ytdojepkmjifoeaa
