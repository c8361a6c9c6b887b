/- The law SessionEpochs: its loop, and the whole of it. -/
import Derived.Test.YtdojepkmjifoeaaJ40
set_option linter.unusedVariables false
set_option linter.unusedSimpArgs false
namespace Go.Proofs.Ytdojepkmjifoeaa
open Go.RowKit

set_option maxRecDepth 1000000 in
theorem end5 {g5 rd cd m : Nat} {x6 x7 x8 x11 x18 x19 x20 x22 : Value} {u : Nat → Value} {wr : World} {Q0 : Exit → Act → World → Prop} {P : Act → World → Prop} (hexit : ∀ u', Q0 (.exit 0) (fe g5 (.int .u8 (rd : Int)) (.int .u16 (cd : Int)) x6 x7 x8 x11 x18 x19 x20 x22 (.int .u8 (m : Int)) (.int .u8 (m : Int)) u') wr) :
    Code.wp Try.prog body5 (Exit.then P Q0) (fe g5 (.int .u8 (rd : Int)) (.int .u16 (cd : Int)) x6 x7 x8 x11 x18 x19 x20 x22 (.int .u8 (m : Int)) (.int .u8 (m : Int)) u) wr := by
  have H := Lib.hid hexit
  clear hexit
  conv => arg 2; whnf
  unfold fe
  go_wp2
  suffices h : ∀ a' : Act, a' = fe g5 (.int .u8 (rd : Int)) (.int .u16 (cd : Int)) x6 x7 x8 x11 x18 x19 x20 x22 (.int .u8 (m : Int)) (.int .u8 (m : Int)) (fun j => a'.tmps.getD j undef) → Q0 (.exit 0) a' wr from h _ rfl
  intro a' ha
  rw [ha]
  exact H.out _

theorem round5 {g5 rd cd m : Nat} {w : World} {Q0 : Exit → Act → World → Prop} (hm : m ≤ 11) (hcd : cd ≤ 65535) (HG : Hid (w.heap.size ≤ g5))
    (hexit : ∀ x6 x7 x8 x11 x18 x19 x20 x22 u' wr, Below w.heap.size w wr → Q0 (.exit 0) (fe g5 (.int .u8 (rd : Int)) (.int .u16 (cd : Int)) x6 x7 x8 x11 x18 x19 x20 x22 (.int .u8 (m : Int)) (.int .u8 (m : Int)) u') wr) {a : Act} {wr : World} (hI : WI5 g5 rd cd m w a wr) :
    Code.wp Try.prog body5 (Exit.then (fun a' w'' => WI5 g5 rd cd m w a' w'' ∧ Wmu5 m a' < Wmu5 m a) Q0) a wr := by
  obtain ⟨x8, x11, x18, x19, x20, x22, u, i, ver, n0, nw, r0, t0, rfl, hnw, him, hv, hn, hr, HN, HB⟩ := hI
  have hmu : Wmu5 m (fe g5 (.int .u8 (rd : Int)) (.int .u16 (cd : Int)) (.int .u64 (nw : Int)) (.int .u64 (ver : Int)) x8 x11 x18 x19 x20 x22 (.int .u8 (m : Int)) (.int .u8 (i : Int)) u) = m - i := by
    show m - (intOf (.int .u8 (i : Int))).toNat = m - i
    simp [intOf]
  rw [hmu]
  by_cases hlt : i < m
  · have hb : cd / 2 ^ i % 2 = 0 ∨ cd / 2 ^ i % 2 = 1 := by omega
    rcases hb with h | h
    · exact round_ack (i1 := i + 1) (vn := 100 + i) (nx := nw + 2) (Lib.hid ⟨rfl, rfl, hnw, rfl, by omega⟩) (Lib.hid ⟨hv, hn, hr⟩) hm hlt hcd h HG HN HB
    · exact round_nack (i1 := i + 1) (vn := 100 + i) (nx := nw + 2) (Lib.hid ⟨rfl, rfl, hnw, rfl, by omega⟩) (Lib.hid ⟨hv, hn, hr⟩) hm hlt hcd h HG HN HB
  · have e : i = m := by omega
    subst e
    exact end5 (fun u' => hexit _ _ _ _ _ _ _ _ u' wr HB.out)

theorem loop5 {g5 rd cd m : Nat} {w w0 : World} {x8 x11 x18 x19 x20 x22 : Value} {Q0 : Exit → Act → World → Prop} {a : Act} (ha : a = fe g5 (.int .u8 (rd : Int)) (.int .u16 (cd : Int)) (.int .u64 0) (.int .u64 7) x8 x11 x18 x19 x20 x22 (.int .u8 (m : Int)) (.int .u8 0) (fun j => a.tmps.getD j undef)) (hm : m ≤ 11) (hcd : cd ≤ 65535) (HG : Hid (w.heap.size ≤ g5))
    (hexit : ∀ x6 x7 x8 x11 x18 x19 x20 x22 u' wr, Below w.heap.size w wr → Q0 (.exit 0) (fe g5 (.int .u8 (rd : Int)) (.int .u16 (cd : Int)) x6 x7 x8 x11 x18 x19 x20 x22 (.int .u8 (m : Int)) (.int .u8 (m : Int)) u') wr)
    (HN : Hid (N9 w0 g5 (.int .u64 0) (.int .u64 7) (.int .u64 0) (.int .u64 0) (.string ⟨#[]⟩) (.bool false) (.int .u64 2) (.int .u64 9) (.int .i64 0))) (HB : Hid (Below w.heap.size w w0)) :
    Code.wp Try.prog (Code.loop body5) Q0 a w0 := by
  refine wp_loop (WI5 g5 rd cd m w) (fun a _ => Wmu5 m a) ?_ (fun a wr hI => round5 hm hcd HG hexit hI)
  exact WI5.mk 0 7 0 0 ⟨#[]⟩ 0 ha rfl rfl rfl rfl (Nat.zero_le _) (by omega) (by omega) (by simp [ByteArray.size]) HN HB

set_option maxRecDepth 1000000 in
set_option maxHeartbeats 16000000 in
theorem epochs_any (rd cd : Nat) (hrd : rd ≤ 255) (hcd : cd ≤ 65535) (w : World) : Calls Try.prog 5 #[.int .u8 (rd : Int), .int .u16 (cd : Int)] w fun e w' => e = .returned (.bool true) ∧ Below w.heap.size w w' := by
  have K6 := Lib.hid (fun w => awake19_any w)
  have K12 : Hid (∀ w, Calls Try.prog 12 #[.agg #[.int .u64 2, .int .u64 9, .int .i64 0], .int .u64 7] w fun r w' => r = .returned (.agg #[.int .u64 0, .int .u64 7, .int .u64 0, .int .u64 0, .string ⟨#[]⟩, .bool false, .int .u64 2, .int .u64 9, .int .i64 0]) ∧ Below w.heap.size w w') := Lib.hid (fun w => new_any 2 9 0 7 w)
  have HC := Lib.hid hcd
  clear hcd
  go_enter Try.func5, Try.ntmps5
  go_upto_region 5 with (first
    | (go_at_call 6; ((with_reducible refine (K6.out _).mono ?_); rintro z w1 ⟨rfl, hb1⟩; have HB1 := Lib.hid hb1; clear hb1))
    | (go_at_call 12; ((with_reducible refine (K12.out _).mono ?_); rintro z w2 ⟨rfl, hb2⟩; have HB2 := Lib.hid (HB1.out.trans (hb2.mono HB1.out.size)); clear hb2)))
  have HN3 : Hid (N9 (w2.alloc (.cells #[.int .u64 0, .int .u64 7, .int .u64 0, .int .u64 0, .string ⟨#[]⟩, .bool false, .int .u64 2, .int .u64 9, .int .i64 0] 39)) w2.heap.size (.int .u64 0) (.int .u64 7) (.int .u64 0) (.int .u64 0) (.string ⟨#[]⟩) (.bool false) (.int .u64 2) (.int .u64 9) (.int .i64 0)) := Lib.hid (N9.new _ _ _ _ _ _ _ _ _ _)
  have HB3 : Hid (Below w.heap.size w (w2.alloc (.cells #[.int .u64 0, .int .u64 7, .int .u64 0, .int .u64 0, .string ⟨#[]⟩, .bool false, .int .u64 2, .int .u64 9, .int .i64 0] 39))) := Lib.hid (HB2.out.trans ((alloc_below w2 _).mono HB2.out.size))
  have HG := Lib.hid HB2.out.size
  generalize (w2.alloc (.cells #[.int .u64 0, .int .u64 7, .int .u64 0, .int .u64 0, .string ⟨#[]⟩, .bool false, .int .u64 2, .int .u64 9, .int .i64 0] 39)) = w3 at *
  generalize w2.heap.size = g5 at *
  go_wp2
  refine loop5 (m := rd % 12) rfl (by omega) HC.out HG (fun x6 x7 x8 x11 x18 x19 x20 x22 u' wr hb => ?_) HN3 HB3
  unfold fe
  go_wp2
  go_ret
  exact ⟨rfl, hb⟩
end Go.Proofs.Ytdojepkmjifoeaa
