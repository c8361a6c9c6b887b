/- Places: the small functions of package spot. -/
import Derived.Test.YtmflpjgedoopoaaDoorF
import Derived.Test.YtmflpjgedoopoaaDoorVI
import Derived.Test.YtmflpjgedoopoaaDoorShelfP
import Derived.Deep.RegionHeld3
import Derived.Laws.StructEq
import Derived.ChangeKeysEq
namespace Go.Proofs.YtmflpjgedoopoaaDoor
open Go.RowKit

/-- An address's cells, and a place as a value. -/
def ipc (a b c d : Nat) : Array Value := #[.int .u8 a, .int .u8 b, .int .u8 c, .int .u8 d]
def plc (a b c d p : Nat) : Value := .agg #[.int .u8 a, .int .u8 b, .int .u8 c, .int .u8 d, .int .u16 p]

theorem Tryd.info5' : ∃ i, Tryd.prog.info? 5 = some i := by
  obtain ⟨i, hi, _⟩ := info_parts (show (Tryd.prog.info? 5).map (fun i => (i.zero, i.size, i.bytes)) = some (some (.int .u8 0), 1, 1) by kernel_rfl)
  exact ⟨i, hi⟩
theorem cells5 : Tryd.prog.cellsOf 5 = 1 := by kernel_rfl
theorem eqIP (a b c d a2 b2 c2 d2 : Nat) (w : World) :
    (Op.equalIn 10000 33 (.agg #[.int .u8 a, .int .u8 b, .int .u8 c, .int .u8 d]) (.agg #[.int .u8 a2, .int .u8 b2, .int .u8 c2, .int .u8 d2])).run Tryd.prog w = .ok (decide (a = a2 ∧ b = b2 ∧ c = c2 ∧ d = d2)) w := by
  obtain ⟨i, hi⟩ := Tryd.info5'
  show (Op.equalIn (9999 + 1) 33 (.agg (ipc a b c d)) (.agg (ipc a2 b2 c2 d2))).run Tryd.prog w = _
  rw [run_equalIn_array w 9999 (ipc a b c d) (ipc a2 b2 c2 d2) Tryd.underlying33 hi, cells5]
  unfold ipc
  simp only [show List.range 4 = [0, 1, 2, 3] from rfl, Op.eqItems]
  simp [go_sem]
  by_cases h1 : a = a2 <;> by_cases h2 : b = b2 <;> by_cases h3 : c = c2 <;> by_cases h4 : d = d2 <;> simp [h1, h2, h3, h4] <;> omega
theorem info9' : ∃ i, Tryd.prog.info? 9 = some i := by
  obtain ⟨i, hi, _⟩ := info_parts info9
  exact ⟨i, hi⟩

/-- What was there reads as before. -/
theorem bcell {W w1 : World} (hb : Below W.heap.size W w1) : (∀ b o, b < W.heap.size → w1.cell? ⟨b, o, none⟩ = W.cell? ⟨b, o, none⟩) ∧ (∀ b o, b < W.heap.size → w1.frozen? ⟨b, o, none⟩ = W.frozen? ⟨b, o, none⟩) :=
  ⟨fun b o h => hb.cell (p := ⟨b, o, none⟩) h, fun b o h => hb.frozen (p := ⟨b, o, none⟩) h⟩

def anyN (a b c d : Nat) : Bool := decide (a = 0 ∧ b = 0 ∧ c = 0 ∧ d = 0)
theorem rany_any (a b c d p : Nat) (w : World) :
    Calls Tryd.prog 40 #[plc a b c d p] w fun e w' => e = .returned (.bool (anyN a b c d)) ∧ Below w.heap.size w w' := by
  have F : Hid (∀ q : Bool, (q = true ↔ (a = 0 ∧ b = 0 ∧ c = 0 ∧ d = 0)) → q = anyN a b c d) := Lib.hid (fun q h => by unfold anyN; rw [Bool.eq_iff_iff, h, decide_eq_true_eq])
  unfold plc
  go_enter Tryd.func40, Tryd.ntmps40
  go_wp2
  all_goals
    go_ret
    refine ⟨ret_bool (F.out _ ?_), (Below.refl _ _).alloc (Nat.le_refl _) _⟩
    simp
    try omega
theorem any_any (a b c d p : Nat) (w : World) :
    Calls Tryd.prog 39 #[plc a b c d p] w fun e w' => e = .returned (.bool (anyN a b c d)) ∧ Below w.heap.size w w' := by
  have hE : ∀ w, (Op.equalIn 10000 33 (.agg #[.int .u8 a, .int .u8 b, .int .u8 c, .int .u8 d]) (.agg #[.int .u8 0, .int .u8 0, .int .u8 0, .int .u8 0])).run Tryd.prog w = .ok (anyN a b c d) w := fun w => eqIP a b c d 0 0 0 0 w
  generalize anyN a b c d = R at *
  unfold plc
  go_enter Tryd.func39, Tryd.ntmps39
  go_wp2
  go_ret
  exact ⟨rfl, (Below.refl _ _).alloc (Nat.le_refl _) _⟩
def meetN (a b c d p a2 b2 c2 d2 p2 : Nat) : Bool := decide (p = p2) && (decide (a = a2 ∧ b = b2 ∧ c = c2 ∧ d = d2) || anyN a b c d || anyN a2 b2 c2 d2)
theorem meet_any (a b c d p a2 b2 c2 d2 p2 : Nat) (w : World) :
    Calls Tryd.prog 36 #[plc a b c d p, plc a2 b2 c2 d2 p2] w fun e w' => e = .returned (.bool (meetN a b c d p a2 b2 c2 d2 p2)) ∧ Below w.heap.size w w' := by
  have hE := eqIP a b c d a2 b2 c2 d2
  have K1 := Lib.hid (any_any a b c d p)
  have K2 := Lib.hid (any_any a2 b2 c2 d2 p2)
  have HR : Hid (meetN a b c d p a2 b2 c2 d2 p2 = (decide (p = p2) && (decide (a = a2 ∧ b = b2 ∧ c = c2 ∧ d = d2) || anyN a b c d || anyN a2 b2 c2 d2))) := Lib.hid rfl
  generalize meetN a b c d p a2 b2 c2 d2 p2 = R at *
  generalize decide (a = a2 ∧ b = b2 ∧ c = c2 ∧ d = d2) = v1 at *
  generalize anyN a b c d = v2 at *
  generalize anyN a2 b2 c2 d2 = v3 at *
  unfold plc at *
  by_cases hp : p = p2
  · subst hp
    rw [decide_eq_true rfl, Bool.true_and] at HR
    cases v1 <;> cases v2 <;> cases v3
    all_goals
      go_enter Tryd.func36, Tryd.ntmps36
      go_wp2_with (first
        | (go_at_call 39; ((with_reducible refine (K1.out _).mono ?_); rintro e w1 ⟨rfl, hb1⟩; obtain ⟨hc1, hf1⟩ := bcell hb1))
        | (go_at_call 39; ((with_reducible refine (K2.out _).mono ?_); rintro e w2 ⟨rfl, hb2⟩)))
      go_ret
      have hB : Below w.heap.size w ((w.alloc (.cells #[.int .u8 a, .int .u8 b, .int .u8 c, .int .u8 d, .int .u16 p] 36)).alloc (.cells #[.int .u8 a2, .int .u8 b2, .int .u8 c2, .int .u8 d2, .int .u16 p] 36)) := ((Below.refl _ _).alloc (Nat.le_refl _) _).alloc (by simp) _
      refine ⟨ret_bool HR.out.symm, ?_⟩
      first
        | exact hB
        | exact (hB.trans (hb1.mono hB.size)).trans (hb2.mono (Nat.le_trans hB.size hb1.size))
        | exact hB.trans (hb1.mono hB.size)
        | exact hB.trans (hb2.mono hB.size)
  · have hpp : ((p : Int) == p2) = false := neq_int hp
    rw [decide_eq_false hp, Bool.false_and] at HR
    go_enter Tryd.func36, Tryd.ntmps36
    go_wp2
    go_ret
    exact ⟨ret_bool HR.out.symm, ((Below.refl _ _).alloc (Nat.le_refl _) _).alloc (by simp) _⟩
end Go.Proofs.YtmflpjgedoopoaaDoor
