/- Walks of tries, Delay, Next, Reset, Jitter. -/
import Derived.Test.YtdojepkmjifoeaaJ39
import Derived.Test.YtdojepkmjifoeaaJ05
set_option linter.unusedVariables false
set_option linter.unusedSimpArgs false
namespace Go.Proofs.Ytdojepkmjifoeaa.Bk
open Go.RowKit

theorem alloc_below (w : World) (o : Obj) : Below w.heap.size w (w.alloc o) := (Below.refl _ _).alloc (Nat.le_refl _) _

theorem box3 {w w1 : World} {x y z : Value} (h : Below (w.alloc (.cells #[x, y, z] 37)).heap.size (w.alloc (.cells #[x, y, z] 37)) w1) :
    w1.cell? ⟨w.heap.size, 0, none⟩ = some x ∧ w1.cell? ⟨w.heap.size, 1, none⟩ = some y ∧ w1.cell? ⟨w.heap.size, 2, none⟩ = some z :=
  ⟨(h.cell (p := ⟨w.heap.size, 0, none⟩) (by simp)).trans (by simp), (h.cell (p := ⟨w.heap.size, 1, none⟩) (by simp)).trans (by simp), (h.cell (p := ⟨w.heap.size, 2, none⟩) (by simp)).trans (by simp)⟩
theorem bt {w w1 : World} {o : Obj} (h : Below (w.alloc o).heap.size (w.alloc o) w1) : Below w.heap.size w w1 := (alloc_below w o).trans (h.mono (by simp))
theorem bdn (B : Nat) (w : World) (n : Nat) : Below B w (w.drewN n) := ⟨rfl, rfl, rfl, Nat.le_refl _, fun _ _ => rfl⟩
theorem box3b {w w1 : World} {x y z x2 y2 z2 : Value} (h : Below ((w.alloc (.cells #[x, y, z] 37)).alloc (.cells #[x2, y2, z2] 37)).heap.size ((w.alloc (.cells #[x, y, z] 37)).alloc (.cells #[x2, y2, z2] 37)) w1) :
    (w1.cell? ⟨w.heap.size, 0, none⟩ = some x ∧ w1.cell? ⟨w.heap.size, 1, none⟩ = some y ∧ w1.cell? ⟨w.heap.size, 2, none⟩ = some z ∧ w1.frozen? ⟨w.heap.size, 2, none⟩ = false) ∧
    (w1.cell? ⟨w.heap.size + 1, 0, none⟩ = some x2 ∧ w1.cell? ⟨w.heap.size + 1, 1, none⟩ = some y2 ∧ w1.cell? ⟨w.heap.size + 1, 2, none⟩ = some z2) ∧
    w1.frozen? ⟨w.heap.size + 1, 0, none⟩ = false ∧ w1.frozen? ⟨w.heap.size + 1, 1, none⟩ = false ∧ w1.frozen? ⟨w.heap.size + 1, 2, none⟩ = false := by
  refine ⟨⟨?_, ?_, ?_, ?_⟩, ⟨?_, ?_, ?_⟩, ?_, ?_, ?_⟩
  iterate 3 (first | exact (h.cell (by first | (simp; done) | (simp; omega))).trans (by simp) | exact (h.cell (by simp)).trans (by simp))
  · exact (h.frozen (by first | (simp; done) | (simp; omega))).trans (by simp)
  iterate 3 (exact (h.cell (by simp)).trans (by simp))
  iterate 3 (exact (h.frozen (by simp)).trans (by simp))
theorem tries_any (b c t : Int) (w : World) : Calls Try.prog 55 #[.agg #[.int .u64 b, .int .u64 c, .int .i64 t]] w fun e w' => e = .returned (.int .i64 (max t 0)) ∧ Below w.heap.size w w' := by
  go_enter Try.func55, Try.ntmps55
  go_wp2
  go_ret
  exact ⟨rfl, alloc_below _ _⟩

def T64 : Nat := 18446744073709551615
theorem delay_any (b c : Nat) (t : Int) (k : Nat) (hk : max t 0 = (k : Int)) (h64 : k ≤ 64) (hb : b ≤ 18446744073709551615) (hc : c ≤ 18446744073709551615) (w : World) :
    Calls Try.prog 35 #[.agg #[.int .u64 b, .int .u64 c, .int .i64 t]] w fun e w' => e = .returned (.int .u64 (dl b c k : Nat)) ∧ Below w.heap.size w w' := by
  have K1 := Lib.hid (fun w => tries_any b c t w)
  rw [hk] at K1
  clear hk
  have K2 := Lib.hid (fun w => Try.bits_LeadingZeros64 (b : Int) w (by omega) (by omega))
  have hl := len_le b (by omega)
  obtain ⟨z, hz⟩ : ∃ z, z = 64 - Lib.bitLen b := ⟨_, rfl⟩
  have hz2 : (64 - (Lib.bitLen ((b : Int).toNat) : Int)) = (z : Int) := by rw [Int.toNat_natCast]; omega
  rw [hz2] at K2
  clear hz2
  have hzk : b ≠ 0 → (z < k ↔ 64 < k + Lib.bitLen b) := fun _ => by omega
  clear hz hl
  obtain ⟨m, hm⟩ : ∃ m, m = b * 2 ^ k := ⟨_, rfl⟩
  have em : (b : Int) * 2 ^ k = (m : Int) := by rw [hm]; simp
  have W (hs : b * 2 ^ k < 18446744073709551616) : IntKind.u64.wrap (m : Int) = (m : Int) := by
    exact IntWalk.u64_in _ ⟨by omega, by omega⟩
  have E0 : ((dl b c k : Nat) : Int) = min (m : Int) (c : Int) := by unfold dl; rw [← hm]; omega
  by_cases h0 : b = 0
  · have hw := W (dl_small (by omega) (Or.inl h0))
    have q : decide ((0 : Int) < (b : Int)) = false := by rw [decide_eq_false_iff_not]; omega
    have q2 : ¬ (0 : Int) < (b : Int) := by omega
    rw [E0]
    clear hzk W h0 hm E0
    go_enter Try.func35, Try.ntmps35
    go_wp2_with (first
      | (go_at_call 55; ((with_reducible refine (K1.out _).mono ?_); rintro e w1 ⟨rfl, hb1⟩; have HB1 := Lib.hid hb1; obtain ⟨c0, c1, _⟩ := box3 hb1; clear hb1))
      | (go_at_call 56; ((with_reducible refine (K2.out _).mono ?_); rintro e w' ⟨rfl, rfl⟩)))
    go_quiet (fail)
    go_wp2
    go_ret
    exact ⟨rfl, (bt HB1.out).trans (bdn _ _ _)⟩
  · by_cases hg : z < k
    · have hd : dl b c k = c := dl_great (by omega) h0 (by omega) ((hzk h0).1 hg)
      rw [hd]
      have q : decide ((0 : Int) < (b : Int)) = true := by rw [decide_eq_true_iff]; omega
      have q1 : (0 : Int) < (b : Int) := by omega
      clear h0 hd hzk W hm em E0
      go_enter Try.func35, Try.ntmps35
      go_wp2_with (first
        | (go_at_call 55; ((with_reducible refine (K1.out _).mono ?_); rintro e w1 ⟨rfl, hb1⟩; have HB1 := Lib.hid hb1; obtain ⟨c0, c1, _⟩ := box3 hb1; clear hb1))
        | (go_at_call 56; ((with_reducible refine (K2.out _).mono ?_); rintro e w' ⟨rfl, rfl⟩)))
      go_ret
      exact ⟨rfl, bt HB1.out⟩
    · have hw := W (dl_small (by omega) (Or.inr (by have := hzk h0; omega)))
      have q : decide ((0 : Int) < (b : Int)) = true := by rw [decide_eq_true_iff]; omega
      have q1 : (0 : Int) < (b : Int) := by omega
      rw [E0]
      clear h0 hzk W hm E0
      go_enter Try.func35, Try.ntmps35
      go_wp2_with (first
        | (go_at_call 55; ((with_reducible refine (K1.out _).mono ?_); rintro e w1 ⟨rfl, hb1⟩; have HB1 := Lib.hid hb1; obtain ⟨c0, c1, _⟩ := box3 hb1; clear hb1))
        | (go_at_call 56; ((with_reducible refine (K2.out _).mono ?_); rintro e w' ⟨rfl, rfl⟩)))
      go_quiet (fail)
      go_wp2
      go_ret
      exact ⟨rfl, (bt HB1.out).trans (bdn _ _ _)⟩

/-- How often it was, one more. -/
def nx (k : Nat) : Nat := min k 63 + 1
theorem next_any (b c t : Int) (k : Nat) (hk : max t 0 = (k : Int)) (w : World) : Calls Try.prog 36 #[.agg #[.int .u64 b, .int .u64 c, .int .i64 t]] w fun e w' => e = .returned (.agg #[.int .u64 b, .int .u64 c, .int .i64 (nx k : Nat)]) ∧ Below w.heap.size w w' := by
  have K1 := Lib.hid (fun w => tries_any b c t w)
  rw [hk] at K1
  clear hk
  have e : ((nx k : Nat) : Int) = min (k : Int) 63 + 1 := by unfold nx; omega
  rw [e]
  clear e
  obtain ⟨m, hm⟩ : ∃ m : Nat, min (k : Int) 63 = (m : Int) := ⟨min k 63, by omega⟩
  have hm2 : m ≤ 63 := by omega
  go_enter Try.func36, Try.ntmps36
  go_wp2_with (first
    | (go_at_call 55; ((with_reducible refine (K1.out _).mono ?_); rintro e w1 ⟨rfl, hb1⟩; have HB1 := Lib.hid hb1; obtain ⟨⟨c0, c1, c2, fz⟩, ⟨d0, d1, d2⟩, f0, f1, f2⟩ := box3b hb1; clear hb1)))
  refine bodyPost_ret (v := .agg #[.int .u64 b, .int .u64 c, .int .i64 ((m : Int) + 1)]) (by simp [results, Try.results36, go_sem, *]) rfl ⟨by rw [hm], ?_⟩
  exact (((((bt (bt HB1.out)).setCell (Nat.le_refl _) _).setCell (by simp) _).setCell (by simp) _).setCell (by simp) _)
theorem reset_any (b c t : Int) (w : World) : Calls Try.prog 33 #[.agg #[.int .u64 b, .int .u64 c, .int .i64 t]] w fun e w' => e = .returned (.agg #[.int .u64 b, .int .u64 c, .int .i64 0]) ∧ Below w.heap.size w w' := by
  go_enter Try.func33, Try.ntmps33
  go_wp2
  refine bodyPost_ret (v := .agg #[.int .u64 b, .int .u64 c, .int .i64 0]) (by simp [results, Try.results33, go_sem]) rfl ⟨rfl, ?_⟩
  exact bt (alloc_below _ _)
def jit (d x : Nat) : Nat := d / 2 + x % (d - d / 2 + 1)
end Go.Proofs.Ytdojepkmjifoeaa.Bk
