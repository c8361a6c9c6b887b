/- Frames as arguments, opened. -/
import Derived.Test.YtlochpnifjmefaaRows
import Derived.Test.YtlochpnifjmefaaFA
import Derived.WalkKit
import Derived.ProofKit
import Derived.OpenShut
import Derived.ShutString
import Derived.ChangeOld
import Derived.ChangeSame
import Derived.Below
namespace Go.Proofs.Ytlochpnifjmefaa
open Go.ChangeShapes Go.WideShapes Go.ChangeAt Go.RowKit

theorem cells51 : Try.prog.cellsOf 51 = 3 := by kernel_rfl
theorem cells3 : Try.prog.cellsOf 3 = 1 := by kernel_rfl
theorem cells24 : Try.prog.cellsOf 24 = 1 := by kernel_rfl
theorem cells9 : Try.prog.cellsOf 9 = 1 := by kernel_rfl
theorem nat64 {n : Int} (h : (Lit.int .u64 n).wf = true) : ∃ a : Nat, n = a ∧ a ≤ 18446744073709551615 := by
  have h0 : 0 ≤ n ∧ n ≤ 18446744073709551615 := by
    simp [Lit.wf, IntKind.min, IntKind.max, IntKind.signed, IntKind.bits] at h; omega
  exact ⟨n.toNat, by omega, by omega⟩
set_option linter.constructorNameAsVariable false
section
variable {H : Type} {enc : TypeId × Value → H} {w : World} {base : Nat} {sp : Nat → Bool} {held : Bool}
set_option maxRecDepth 100000 in
theorem trod_fr {fuel : Nat} {cs : List Value} {x : DataW H × List MemPlace} (h : DataW.trod enc Try.prog w base sp held fuel 51 cs = some x) :
    ∃ (k : Int) (e : Nat) (b : ByteArray), (Lit.int .i64 k).wf = true ∧ e ≤ 18446744073709551615 ∧ b.size ≤ maxLen ∧ cs = [.int .i64 k, .int .u64 e, .string b] := by
  obtain ⟨xs, n, _, rfl, hl, hlen, hf⟩ := DataW.trod_struct Try.underlying51 h
  rw [cells51] at hl
  match cs, hl with
  | [v0, v1, v2], _ =>
    match xs, hlen with
    | [x0, x1, x2], _ =>
      have f0 := hf 0 _ rfl
      have f1 := hf 1 _ rfl
      have f2 := hf 2 _ rfl
      simp [cells3, cells24, cells9] at f0 f1 f2
      obtain ⟨k, e0, _, wk⟩ := DataW.trod_int Try.underlying3 f0
      obtain ⟨e, e1, _, we⟩ := DataW.trod_int Try.underlying24 f1
      obtain ⟨b, e2, _, wb⟩ := DataW.trod_string Try.underlying9 f2
      simp at e0 e1 e2
      obtain ⟨e', rfl, he⟩ := nat64 we
      exact ⟨k, e', b, wk, he, wb, by rw [e0, e1, e2]⟩
set_option maxRecDepth 100000 in
theorem open_frame {r : Reach} {b0 : Nat} {v : Value} {dd : DataW H} {ps : List MemPlace} (hv : Value.okWide Try.prog w r b0 51 v) (h : DataW.Trod enc Try.prog w base sp held 51 v dd ps) :
    ∃ (k : Int) (e : Nat) (b : ByteArray), (Lit.int .i64 k).wf = true ∧ e ≤ 18446744073709551615 ∧ b.size ≤ maxLen ∧ v = .agg #[.int .i64 k, .int .u64 (e : Int), .string b] := by
  obtain ⟨cs, rfl, hsz⟩ := okWide_struct Try.underlying51 hv
  obtain ⟨f, h⟩ := h
  obtain ⟨k, e, b, hk, he, hb, ec⟩ := trod_fr h
  have e' : cs = #[.int .i64 k, .int .u64 (e : Int), .string b] := by
    have : cs.toList = [.int .i64 k, .int .u64 (e : Int), .string b] := ec
    exact Array.toList_inj.1 this
  exact ⟨k, e, b, hk, he, hb, by rw [e']⟩
end
end Go.Proofs.Ytlochpnifjmefaa
