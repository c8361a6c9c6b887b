/- The law SessionEpochs: the regions in which Take is asked, for any frame. -/
import Derived.Test.YtdojepkmjifoeaaJ37
import Derived.Test.YtdojepkmjifoeaaJ38
set_option linter.unusedVariables false
set_option linter.unusedSimpArgs false
namespace Go.Proofs.Ytdojepkmjifoeaa
open Go.RowKit

set_option maxRecDepth 1000000 in
theorem reg13' {a : Act} {w : World} {g5 e v n x b c e2 v2 n2 x2 b2 c2 ov on p1 p2 q : Nat} {r r2 ob M R : ByteArray} {o o2 : Bool} {t t2 C : Int} {x0 x1 x6 x7 x8 x18 x19 x20 x22 x31 x32 : Value}  {q1 : Nat} (ha : a = fe g5 x0 x1 x6 x7 x8 (.int .u64 (q1 : Int)) x18 x19 x20 x22 x31 x32 (fun j => a.tmps.getD j undef)) (hqb : q ≤ 1000) (hq : (q1 : Int) - 1 = (q : Int)) (hp1 : p1 = 1) (hp2 : p2 = 1)
    (HN : Hid (N9 w g5 (.int .u64 (e : Int)) (.int .u64 (v : Int)) (.int .u64 (n : Int)) (.int .u64 (x : Int)) (.string r) (.bool o) (.int .u64 (b : Int)) (.int .u64 (c : Int)) (.int .i64 t))) (K7 : Hid (∀ (wz : World) (B : Nat), wz.heap[B]? = some (.cells #[.int .u64 (p1 : Int), .int .u64 (p2 : Int)] 22 (0, 0)) → Calls Try.prog 7 #[.int .i64 2, .int .u64 (q : Int), .string ⟨#[120]⟩, .slice (some ⟨B, 0, none⟩) 2 2] wz fun z w' => z = .returned (.string M) ∧ Below wz.heap.size wz w')) (K14 : Hid (∀ w, Calls Try.prog 14 #[.agg #[.int .u64 (e : Int), .int .u64 (v : Int), .int .u64 (n : Int), .int .u64 (x : Int), .string r, .bool o, .int .u64 (b : Int), .int .u64 (c : Int), .int .i64 t], .string M] w fun z w' => z = .returned (.tuple #[.agg #[.int .u64 (e2 : Int), .int .u64 (v2 : Int), .int .u64 (n2 : Int), .int .u64 (x2 : Int), .string r2, .bool o2, .int .u64 (b2 : Int), .int .u64 (c2 : Int), .int .i64 t2], .agg #[.int .u64 (ov : Int), .int .u64 (on : Int), .string ob], .string R, .int .i64 C]) ∧ Below w.heap.size w w')) :
    Code.wp Try.prog rg13 (fun ee a' w' => ee = .normal ∧ ∃ gA gO, RR w g5 x0 x1 x6 x7 x8 (.int .u64 (q1 : Int)) (.int .i64 C) x19 x20 x22 x31 x32 gA gO ⟨e2, v2, n2, x2, r2, o2, b2, c2, t2⟩ ov on ob a' w') a w := by
  rw [ha]
  exact reg13 hqb hq hp1 hp2 HN K7 K14
set_option maxRecDepth 1000000 in
theorem reg16' {a : Act} {w : World} {g5 e v n x b c e2 v2 n2 x2 b2 c2 ov on p1 p2 q : Nat} {r r2 ob M R : ByteArray} {o o2 : Bool} {t t2 C : Int} {x0 x1 x6 x7 x18 x19 x20 x22 x31 x32 : Value}  {i : Nat} (ha : a = fe g5 x0 x1 x6 x7 (.int .u8 (i : Int)) (.int .u64 (q : Int)) x18 x19 x20 x22 x31 x32 (fun j => a.tmps.getD j undef)) (hi : i ≤ 255) (hp1 : p1 = 100 + i) (hp2 : p2 = 1)
    (HN : Hid (N9 w g5 (.int .u64 (e : Int)) (.int .u64 (v : Int)) (.int .u64 (n : Int)) (.int .u64 (x : Int)) (.string r) (.bool o) (.int .u64 (b : Int)) (.int .u64 (c : Int)) (.int .i64 t))) (K7 : Hid (∀ (wz : World) (B : Nat), wz.heap[B]? = some (.cells #[.int .u64 (p1 : Int), .int .u64 (p2 : Int)] 22 (0, 0)) → Calls Try.prog 7 #[.int .i64 2, .int .u64 (q : Int), .string ⟨#[120]⟩, .slice (some ⟨B, 0, none⟩) 2 2] wz fun z w' => z = .returned (.string M) ∧ Below wz.heap.size wz w')) (K14 : Hid (∀ w, Calls Try.prog 14 #[.agg #[.int .u64 (e : Int), .int .u64 (v : Int), .int .u64 (n : Int), .int .u64 (x : Int), .string r, .bool o, .int .u64 (b : Int), .int .u64 (c : Int), .int .i64 t], .string M] w fun z w' => z = .returned (.tuple #[.agg #[.int .u64 (e2 : Int), .int .u64 (v2 : Int), .int .u64 (n2 : Int), .int .u64 (x2 : Int), .string r2, .bool o2, .int .u64 (b2 : Int), .int .u64 (c2 : Int), .int .i64 t2], .agg #[.int .u64 (ov : Int), .int .u64 (on : Int), .string ob], .string R, .int .i64 C]) ∧ Below w.heap.size w w')) :
    Code.wp Try.prog rg16 (fun ee a' w' => ee = .normal ∧ ∃ gA gO, RR w g5 x0 x1 x6 x7 (.int .u8 (i : Int)) (.int .u64 (q : Int)) x18 (.pointer (some ⟨gA, 0, none⟩)) (.pointer (some ⟨gO, 0, none⟩)) (.int .i64 C) x31 x32 gA gO ⟨e2, v2, n2, x2, r2, o2, b2, c2, t2⟩ ov on ob a' w') a w := by
  rw [ha]
  exact reg16 hi hp1 hp2 HN K7 K14
end Go.Proofs.Ytdojepkmjifoeaa
