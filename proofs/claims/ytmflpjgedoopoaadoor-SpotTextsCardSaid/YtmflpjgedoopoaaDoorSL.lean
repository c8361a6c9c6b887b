/- What each of layer 4's cards wants: a world that holds the listed variables of Go's library; places as arguments, opened and shut. -/
import Derived.Test.YtmflpjgedoopoaaDoorT
import Derived.Test.YtmflpjgedoopoaaDoorSI
import Derived.Stop.LaidErr
import Derived.ChangeSame
namespace Go.Proofs.YtmflpjgedoopoaaDoor
open Go.ChangeShapes Go.WideShapes Go.ChangeAt Go.RowKit

theorem cells33 : Tryd.prog.cellsOf 33 = 4 := by kernel_rfl
theorem cells36 : Tryd.prog.cellsOf 36 = 5 := by kernel_rfl
theorem cells34 : Tryd.prog.cellsOf 34 = 1 := by kernel_rfl
def plD {H : Type} (a b c d p : Nat) : DataW H := .agg [.agg [.lit (.int .u8 a), .lit (.int .u8 b), .lit (.int .u8 c), .lit (.int .u8 d)], .lit (.int .u16 p)]
theorem wf8 (a : Nat) : (Lit.int .u8 (a : Int)).wf = true ↔ a < 256 := by
  simp [Lit.wf, IntKind.min, IntKind.max, IntKind.signed, IntKind.bits]; omega
theorem wf16 (a : Nat) : (Lit.int .u16 (a : Int)).wf = true ↔ a < 65536 := by
  simp [Lit.wf, IntKind.min, IntKind.max, IntKind.signed, IntKind.bits]; omega
theorem nat8 {n : Int} (h : (Lit.int .u8 n).wf = true) : ∃ a : Nat, n = a ∧ a < 256 := by
  have h0 : 0 ≤ n ∧ n < 256 := by
    simp [Lit.wf, IntKind.min, IntKind.max, IntKind.signed, IntKind.bits] at h; omega
  exact ⟨n.toNat, by omega, by omega⟩
theorem nat16 {n : Int} (h : (Lit.int .u16 n).wf = true) : ∃ a : Nat, n = a ∧ a < 65536 := by
  have h0 : 0 ≤ n ∧ n < 65536 := by
    simp [Lit.wf, IntKind.min, IntKind.max, IntKind.signed, IntKind.bits] at h; omega
  exact ⟨n.toNat, by omega, by omega⟩
set_option linter.constructorNameAsVariable false
section
variable {H : Type} {enc : TypeId × Value → H} {w : World} {base : Nat} {sp : Nat → Bool} {held : Bool}
set_option maxRecDepth 100000 in
theorem trod_pl {fuel : Nat} {cs : List Value} {x : DataW H × List MemPlace} (h : DataW.trod enc Tryd.prog w base sp held fuel 36 cs = some x) :
    ∃ a b c d p : Nat, a < 256 ∧ b < 256 ∧ c < 256 ∧ d < 256 ∧ p < 65536 ∧ cs = [.int .u8 a, .int .u8 b, .int .u8 c, .int .u8 d, .int .u16 p] ∧ x = (plD a b c d p, []) := by
  obtain ⟨y0, y1, n, rfl, hl, h0, h1⟩ := trod_struct2 Tryd.underlying36 h
  simp only [cells33, cells34, cells36] at hl h0 h1
  obtain ⟨xs, m, rfl, rfl, hl0, hx, hf⟩ := DataW.trod_array Tryd.underlying33 h0
  match cs, hl with
  | [v0, v1, v2, v3, v4], _ =>
    simp only [cells5] at hf
    match xs, hx with
    | [x0, x1, x2, x3], _ =>
      have f0 := hf 0 (by omega)
      have f1 := hf 1 (by omega)
      have f2 := hf 2 (by omega)
      have f3 := hf 3 (by omega)
      simp at f0 f1 f2 f3 h1
      obtain ⟨n0, e0, rfl, w0⟩ := DataW.trod_int Tryd.underlying5 f0
      obtain ⟨n1, e1, rfl, w1⟩ := DataW.trod_int Tryd.underlying5 f1
      obtain ⟨n2, e2, rfl, w2⟩ := DataW.trod_int Tryd.underlying5 f2
      obtain ⟨n3, e3, rfl, w3⟩ := DataW.trod_int Tryd.underlying5 f3
      obtain ⟨n4, e4, rfl, w4⟩ := DataW.trod_int Tryd.underlying34 h1
      simp at e0 e1 e2 e3 e4
      obtain ⟨a, rfl, ha⟩ := nat8 w0
      obtain ⟨b, rfl, hb⟩ := nat8 w1
      obtain ⟨c, rfl, hc⟩ := nat8 w2
      obtain ⟨d, rfl, hd⟩ := nat8 w3
      obtain ⟨p, rfl, hp⟩ := nat16 w4
      subst e0 e1 e2 e3 e4
      exact ⟨a, b, c, d, p, ha, hb, hc, hd, hp, rfl, rfl⟩
set_option maxRecDepth 100000 in
theorem open_place {r : Reach} {b0 : Nat} {v : Value} {dd : DataW H} {ps : List MemPlace} (hv : Value.okWide Tryd.prog w r b0 36 v) (h : DataW.Trod enc Tryd.prog w base sp held 36 v dd ps) :
    ∃ a b c d p : Nat, a < 256 ∧ b < 256 ∧ c < 256 ∧ d < 256 ∧ p < 65536 ∧ v = plc a b c d p ∧ dd = plD a b c d p ∧ ps = [] := by
  obtain ⟨cs, rfl, hsz⟩ := okWide_struct Tryd.underlying36 hv
  obtain ⟨f, h⟩ := h
  obtain ⟨a, b, c, d, p, ha, hb, hc, hd, hp, e, hx⟩ := trod_pl h
  have e' : cs = #[.int .u8 a, .int .u8 b, .int .u8 c, .int .u8 d, .int .u16 p] := by
    have : cs.toList = [.int .u8 a, .int .u8 b, .int .u8 c, .int .u8 d, .int .u16 p] := e
    exact Array.toList_inj.1 this
  subst e'
  simp at hx
  exact ⟨a, b, c, d, p, ha, hb, hc, hd, hp, rfl, hx.1, hx.2⟩
set_option maxRecDepth 100000 in
theorem shut_place {a b c d p : Nat} (ha : a < 256) (hb : b < 256) (hc : c < 256) (hd : d < 256) (hp : p < 65536) : DataW.Trod enc Tryd.prog w base sp held 36 (plc a b c d p) (plD a b c d p) [] := by
  refine ⟨3, ?_⟩
  have k0 := trod_int_mk (enc := enc) (w := w) (base := base) (spare := sp) (held := held) 0 Tryd.underlying5 ((wf8 a).2 ha)
  have k1 := trod_int_mk (enc := enc) (w := w) (base := base) (spare := sp) (held := held) 0 Tryd.underlying5 ((wf8 b).2 hb)
  have k2 := trod_int_mk (enc := enc) (w := w) (base := base) (spare := sp) (held := held) 0 Tryd.underlying5 ((wf8 c).2 hc)
  have k3 := trod_int_mk (enc := enc) (w := w) (base := base) (spare := sp) (held := held) 0 Tryd.underlying5 ((wf8 d).2 hd)
  have k4 := trod_int_mk (enc := enc) (w := w) (base := base) (spare := sp) (held := held) 1 Tryd.underlying34 ((wf16 p).2 hp)
  have h0 : DataW.trod enc Tryd.prog w base sp held 2 33 [.int .u8 a, .int .u8 b, .int .u8 c, .int .u8 d] = some (.agg [.lit (.int .u8 a), .lit (.int .u8 b), .lit (.int .u8 c), .lit (.int .u8 d)], []) := by
    unfold DataW.trod
    rw [Tryd.underlying33]
    simp [cells33, cells5, show List.range 4 = [0, 1, 2, 3] from rfl, k0, k1, k2, k3]
  refine trod_struct2_mk (y0 := (.agg [.lit (.int .u8 a), .lit (.int .u8 b), .lit (.int .u8 c), .lit (.int .u8 d)], [])) (y1 := (.lit (.int .u16 p), [])) Tryd.underlying36 ?_ ?_ ?_
  · rw [cells36]; rfl
  · rw [cells33]; exact h0
  · rw [cells34]; exact k4
end

/-! ### What of Go's library the rows list -/
theorem gTab : Tryd.prog.globalNamed "internal/strconv.uint64pow10" = some 3 := by kernel_rfl
theorem gTabType : (Tryd.prog.globals[3]?).map (·.type) = some 110 := by kernel_rfl
theorem gERType : (Tryd.prog.globals[2]?).map (·.type) = some 73 := by kernel_rfl
theorem cells110 : Tryd.prog.cellsOf 110 = 20 := by kernel_rfl
theorem cells57 : Tryd.prog.cellsOf 57 = 1 := by kernel_rfl
theorem cells120 : Tryd.prog.cellsOf 120 = 1 := by kernel_rfl
theorem cells9' : Tryd.prog.cellsOf 9 = 1 := by kernel_rfl
theorem star : "*" ++ "errors.errorString" = "*errors.errorString" := by decide
theorem row118 (u : TypeId) (h : Tryd.prog.typeName? 3 u = some "*errors.errorString") : u = 118 :=
  typeName_ptr_named (nm := "errors.errorString") (by rw [star]; kernel_rfl) (by kernel_rfl) (by decide) u (by rw [star]; exact h)
theorem lay_of {W : World} (h : laidMetH Tryd.prog Rows.spotOrderRow.laid W) (hsh : W.ShapedOpen Tryd.prog) : Lay W := by
  have h2 := laidMet.tail (laidMet.tail (show laidMet Tryd.prog Rows.spotOrderRow.laid W from h))
  have h3 := laidMet.tail h2
  obtain ⟨a0, s0, hv0, -, -, -⟩ := laid_sentinel h3 gER gERType Tryd.underlying73 row118 Tryd.underlying118 Tryd.underlying120 rfl rfl Tryd.underlying9 cells120 cells9'
  exact ⟨mx_of hsh, Lib.tabIs_of_head gTab gTabType Tryd.underlying110 Tryd.underlying57 cells57 cells110 h2, 118, _, hv0⟩

/-! ### One start that fits -/
abbrev synS : ByteArray := { data := #[105, 110, 118, 97, 108, 105, 100, 32, 115, 121, 110, 116, 97, 120] }
abbrev rngS : ByteArray := { data := #[118, 97, 108, 117, 101, 32, 111, 117, 116, 32, 111, 102, 32, 114, 97, 110, 103, 101] }
noncomputable def heapLow : Nat := (World.holding Tryd.prog default ⟨#[], #[], []⟩).heap.size
def tab32 : Array Value := u8s [0, 1, 28, 2, 29, 14, 24, 3, 30, 22, 20, 15, 25, 17, 4, 8, 31, 27, 13, 23, 21, 19, 16, 7, 26, 12, 18, 6, 11, 5, 10, 9]
def tab64 : Array Value := u8s [0, 1, 56, 2, 57, 49, 28, 3, 61, 58, 42, 50, 38, 29, 17, 4, 62, 47, 59, 36, 45, 43, 51, 22, 53, 39, 33, 30, 24, 18, 12, 5, 63, 55, 48, 27, 60, 41, 37, 16, 46, 35, 44, 21, 52, 32, 23, 11, 54, 26, 40, 15, 34, 20, 31, 10, 25, 14, 19, 9, 13, 8, 7, 6]
def tab10 : Array Value := ((List.range 20).map fun i => Value.int .u64 ((10 ^ i : Nat) : Int)).toArray
noncomputable def spotWorld (os : Os) : World :=
  let w0 := World.holding Tryd.prog os ⟨#[.cells #[.string synS] 120, .cells #[.string rngS] 120], #[], []⟩
  { w0 with heap := ((((w0.heap.modify 3 (put tab10)).modify 1 (put #[.iface 118 (.pointer (some ⟨heapLow, 0, none⟩))])).modify 2 (put #[.iface 118 (.pointer (some ⟨heapLow + 1, 0, none⟩))])).modify 6 (put tab32)).modify 7 (put tab64) }
end Go.Proofs.YtmflpjgedoopoaaDoor
