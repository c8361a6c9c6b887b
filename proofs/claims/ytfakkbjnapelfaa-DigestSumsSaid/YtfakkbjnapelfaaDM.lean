/- Walk of digest.Whole. -/
import Derived.Test.YtfakkbjnapelfaaDL
import Derived.Test.YtfakkbjnapelfaaShelfR
import Derived.Test.YtfakkbjnapelfaaWVF
namespace Go.Proofs.Ytfakkbjnapelfaa.Dg
open Go.RowKit

/-- How many noughts. -/
def nts (n : Nat) : Nat := (64 - (n + 1 + 8) % 64) % 64
/-- What blocks are cut of. -/
def wholeL (l : List UInt8) : List UInt8 := l ++ [128] ++ List.replicate (nts l.length) 0 ++ W.be (8 * l.length) 8
theorem wholeL_len (l : List UInt8) : (wholeL l).length = l.length + 9 + nts l.length := by
  unfold wholeL; simp [W.be_length]; omega
theorem wholeL_64 (l : List UInt8) : (wholeL l).length % 64 = 0 := by
  rw [wholeL_len]; unfold nts; omega

set_option maxRecDepth 1000000 in
set_option maxHeartbeats 2000000 in
theorem whole_any (l : List UInt8) (hl : l.length ≤ 2000) (w : World) : Calls Try.prog 25 #[.string (W.str l)] w fun e w' => e = .returned (.string (W.str (wholeL l))) ∧ Below w.heap.size w w' := by
  obtain ⟨n, hn⟩ : ∃ n, l.length = n := ⟨_, rfl⟩
  obtain ⟨z, hz⟩ : ∃ z, nts n = z := ⟨_, rfl⟩
  have hz64 : z < 64 := by rw [← hz]; unfold nts; omega
  obtain ⟨r, hr⟩ : ∃ r, (n + 1 + 8) % 64 = r := ⟨_, rfl⟩
  have hrz : (64 - r) % 64 = z := by rw [← hr, ← hz]; rfl
  have hr64 : r < 64 := by omega
  have KR : Hid (∀ w, Calls Try.prog 17 #[.string ⟨#[0]⟩, .int .i64 (z : Int)] w fun e w' => e = .returned (.string (W.str (List.replicate z 0))) ∧ Below w.heap.size w w') := Lib.hid (fun w => by
    have := Try.strings_Repeat ⟨#[0]⟩ z w (by omega) (by show 1 * z ≤ _; omega)
    have e : Lib.repeatL [0] z = List.replicate z 0 := by
      have := Lib.repeatL_replicate 0 1 z
      rw [Nat.mul_one] at this
      exact this
    rw [show (⟨#[0]⟩ : ByteArray).data.toList = [0] from rfl, e] at this
    exact this)
  have KP : Hid (∀ w, Calls Try.prog 46 #[.int .u64 ((8 * n : Nat) : Int), .int .i64 8] w fun e w' => e = .returned (.string (W.str (W.be (8 * n) 8))) ∧ Below w.heap.size w w') := Lib.hid (fun w => W.put_any (8 * n) 8 (by omega) w)
  have A1 : ∀ W0, (Op.stringOp .add (W.str l) ⟨#[128]⟩).run Try.prog W0 = .ok (.string (W.str (l ++ [128]))) W0 := fun W0 => W.run_str_add l [128] (by simp; omega) W0
  have A2 : ∀ W0, (Op.stringOp .add (W.str (l ++ [128])) (W.str (List.replicate z 0))).run Try.prog W0 = .ok (.string (W.str (l ++ [128] ++ List.replicate z 0))) W0 := fun W0 => W.run_str_add _ _ (by simp; omega) W0
  have A3 : ∀ W0, (Op.stringOp .add (W.str (l ++ [128] ++ List.replicate z 0)) (W.str (W.be (8 * n) 8))).run Try.prog W0 = .ok (.string (W.str (wholeL l))) W0 := fun W0 => by
    rw [W.run_str_add _ _ (by simp [W.be_length]; omega) W0]
    unfold wholeL; rw [hn, hz]
  have hsz : (W.str l).size = n := by rw [W.size_str]; exact hn
  have e1 : ((n : Int) + 1 + 8) % 64 = (r : Int) := by omega
  have e2 : ((64 : Int) - r) % 64 = (z : Int) := by omega
  have e3 : (8 : Int) * n = ((8 * n : Nat) : Int) := by omega
  have e4 : IntKind.u64.wrap ((8 * n : Nat) : Int) = ((8 * n : Nat) : Int) := IntWalk.u64_in _ ⟨by omega, by omega⟩
  have hn2 : (n : Int) ≤ 2000 := by omega
  have hn0 : (0 : Int) ≤ n := by omega
  have hr2 : (r : Int) < 64 := by omega
  have hr0 : (0 : Int) ≤ r := by omega
  clear hl hz hr hrz hn hz64 hr64
  generalize W.str (wholeL l) = s3 at *
  generalize W.str (l ++ [128] ++ List.replicate z 0) = s2 at *
  generalize W.str (l ++ [128]) = s1 at *
  generalize W.str (List.replicate z 0) = zs at *
  generalize W.str (W.be (8 * n) 8) = ps at *
  generalize W.str l = s at *
  generalize 8 * n = m at *
  go_enter Try.func25, Try.ntmps25
  go_wp2_with (first
    | (go_at_call 17; go_must (refine (KR.out _).mono ?_); rintro e w1 ⟨rfl, hb1⟩)
    | (go_at_call 46; go_must (refine (KP.out _).mono ?_); rintro e w2 ⟨rfl, hb2⟩))
  go_ret
  exact ⟨rfl, hb1.trans (hb2.mono hb1.size)⟩
end Go.Proofs.Ytfakkbjnapelfaa.Dg
