/- Layer 19's awake. -/
import Derived.Test.YtdojepkmjifoeaaJ47
set_option linter.unusedVariables false
set_option linter.unusedSimpArgs false
namespace Go.Proofs.Ytdojepkmjifoeaa
open Go.RowKit

theorem awake7o_any (w : World) : Calls Try.prog 17 #[] w fun e w' => e = .returned (.bool true) ∧ Below w.heap.size w w' := by
  have K := Lib.hid (fun w => awake7_any w)
  go_enter Try.func17, Try.ntmps17
  go_wp2_with (first | (go_at_call 37; ((with_reducible refine (K.out _).mono ?_); rintro e w1 ⟨rfl, hb1⟩)))
  go_ret
  exact ⟨rfl, hb1⟩
theorem awake8o_any (w : World) : Calls Try.prog 18 #[] w fun e w' => e = .returned (.bool true) ∧ Below w.heap.size w w' := by
  have K := Lib.hid (fun w => awake8_any w)
  go_enter Try.func18, Try.ntmps18
  go_wp2_with (first | (go_at_call 38; ((with_reducible refine (K.out _).mono ?_); rintro e w1 ⟨rfl, hb1⟩)))
  go_ret
  exact ⟨rfl, hb1⟩
theorem awake18o_any (w : World) : Calls Try.prog 19 #[] w fun e w' => e = .returned (.bool true) ∧ Below w.heap.size w w' := by
  have K := Lib.hid (fun w => Bk.awake18_any w)
  go_enter Try.func19, Try.ntmps19
  go_wp2_with (first | (go_at_call 39; ((with_reducible refine (K.out _).mono ?_); rintro e w1 ⟨rfl, hb1⟩)))
  go_ret
  exact ⟨rfl, hb1⟩
def s0 : Ss := Ss.new 1 8 0 5
def m0 : ByteArray := msgV 1 1 ⟨#[]⟩ [5]
theorem m0_ok : MsOk 1 1 ⟨#[]⟩ [5] := ⟨by omega, by omega, by omega, by simp [ByteArray.size], by simp, by simp⟩
set_option maxRecDepth 100000 in
set_option maxHeartbeats 8000000 in
theorem awake19_any (w : World) : Calls Try.prog 6 #[] w fun e w' => e = .returned (.bool true) ∧ Below w.heap.size w w' := by
  have K17 := Lib.hid (fun w => awake7o_any w)
  have K18 := Lib.hid (fun w => awake8o_any w)
  have K19 := Lib.hid (fun w => awake18o_any w)
  have K12 : Hid (∀ w, Calls Try.prog 12 #[.agg #[.int .u64 1, .int .u64 8, .int .i64 0], .int .u64 5] w fun r w' => r = .returned (.agg #[.int .u64 0, .int .u64 5, .int .u64 0, .int .u64 0, .string ⟨#[]⟩, .bool false, .int .u64 1, .int .u64 8, .int .i64 0]) ∧ Below w.heap.size w w') := Lib.hid (fun w => new_any 1 8 0 5 w)
  obtain ⟨M, hM⟩ : ∃ M, msgV 1 1 ⟨#[]⟩ [5] = M := ⟨_, rfl⟩
  have K13 : Hid (∀ w, Calls Try.prog 13 #[.agg #[.int .u64 0, .int .u64 5, .int .u64 0, .int .u64 0, .string ⟨#[]⟩, .bool false, .int .u64 1, .int .u64 8, .int .i64 0], .int .u64 0] w fun z w' => z = .returned (.tuple #[.agg #[.int .u64 1, .int .u64 5, .int .u64 0, .int .u64 0, .string ⟨#[]⟩, .bool true, .int .u64 1, .int .u64 8, .int .i64 0], .string M]) ∧ Below w.heap.size w w') :=
    Lib.hid (fun w => tick_ok (Ss.new 1 8 0 5) 0 ⟨by simp [Ss.new], by simp [Ss.new], by simp [Ss.new], by simp [Ss.new], by simp [Ss.new, ByteArray.size], by simp [Ss.new], by simp [Ss.new]⟩ rfl (by simp [Ss.new]) M hM w)
  obtain ⟨h1, h2, h3, h4, h5⟩ := ms_read m0_ok rfl (fun _ => rfl)
  have hM' : msgV ((1 : Nat) : Int) 1 ⟨#[]⟩ [5] = M := hM
  rw [hM'] at h1 h2 h3 h4 h5
  have K9 := fun w => read_ok M (by rw [← hM']; have := (ms_size m0_ok).1; omega) h1 w
  rw [h2, h3, h4, h5] at K9
  simp only [List.length_cons, List.length_nil, Nat.zero_add] at K9
  have K9 := Lib.hid K9
  clear hM hM' h1 h2 h3 h4 h5
  go_enter Try.func6, Try.ntmps6
  go_wp2_with (first
    | (go_at_call 12; ((with_reducible refine (K12.out _).mono ?_); rintro z w1 ⟨rfl, hb1⟩))
    | (go_at_call 13; ((with_reducible refine (K13.out _).mono ?_); rintro z w2 ⟨rfl, hb2⟩; have HB2 := Lib.hid (hb1.trans (hb2.mono hb1.size)); clear hb1 hb2))
    | (go_at_call 9; ((with_reducible refine (K9.out _).mono ?_); rintro z w3 ⟨ρ, oN, capN, rfl, hpa⟩; obtain ⟨rr, hrr, horr, hc⟩ := hpa.2.1.cell 0 (by simp); subst horr; have HN3 := Lib.hid ((N9.new w2 (.int .u64 1) (.int .u64 5) (.int .u64 0) (.int .u64 0) (.string ⟨#[]⟩) (.bool true) (.int .u64 1) (.int .u64 8) (.int .i64 0)).later hpa.1); have HC3 : Hid (w3.cell? ⟨rr, 0, none⟩ = some (.int .u64 5)) := Lib.hid hc; have HB3 := Lib.hid (HB2.out.trans ((Bk.bt hpa.1).mono HB2.out.size)); clear hpa hrr hc))
    | (go_at_call 17; ((with_reducible refine (K17.out _).mono ?_); rintro z w4 ⟨rfl, hb4⟩; have HN4 := Lib.hid (HN3.out.later hb4); have HC4 := Lib.hid ((hb4.cell (p := ⟨rr, 0, none⟩) (World.block_lt_of_cell? _ _ HC3.out)).trans HC3.out); have HB4 := Lib.hid (HB3.out.trans (hb4.mono HB3.out.size)); clear hb4))
    | (go_at_call 18; ((with_reducible refine (K18.out _).mono ?_); rintro z w5 ⟨rfl, hb5⟩; have HN5 := Lib.hid (HN4.out.later hb5); have HC5 := Lib.hid ((hb5.cell (p := ⟨rr, 0, none⟩) (World.block_lt_of_cell? _ _ HC4.out)).trans HC4.out); have HB5 := Lib.hid (HB4.out.trans (hb5.mono HB4.out.size)); clear hb5))
    | (go_at_call 19; ((with_reducible refine (K19.out _).mono ?_); rintro z w6 ⟨rfl, hb6⟩; have HN6 := Lib.hid (HN5.out.later hb6); have HC6 := Lib.hid ((hb6.cell (p := ⟨rr, 0, none⟩) (World.block_lt_of_cell? _ _ HC5.out)).trans HC5.out); have HB6 := Lib.hid (HB5.out.trans (hb6.mono HB5.out.size)); clear hb6; obtain ⟨⟨c0, c1, c2, c3, c4, c5, c6, c7, c8⟩, _⟩ := nine HN6.out; have cc := HC6.out)))
  go_ret
  exact ⟨rfl, HB6.out⟩
end Go.Proofs.Ytdojepkmjifoeaa
