/- Walks of the closure in Total, Total of no and of one delay.; Walk of layer 18's awake.; The law BackoffRises, walked. -/
import Derived.Test.YtogmaiijlpkeeaaJ01
set_option linter.unusedVariables false
set_option linter.unusedSimpArgs false
namespace Go.Proofs.Ytogmaiijlpkeeaa
open Go.RowKit

theorem Try.info22 : (Try.prog.info? 22).map (fun i => (i.zero, i.size, i.bytes)) = some (some (.int .u64 0), 1, 8) := by kernel_rfl
/-- 'l = append(l, d)' of no row. -/
theorem wpList_append_u64 (W : World) {ops : Array Oper} {rest : List Oper} {o : Oper} {a : Act} {Q : Exit → Act → World → Prop} (hgd : o.guard = none) (s x : Operand)
    (ho : o.op = .call { callee := .builtin .append, args := #[s, x], argTypes := #[33, 33] })
    (B : Nat) (hs : a.eval s = .slice none 0 0) (d : Nat) (hx : a.eval x = .slice (some ⟨W.heap.size, 0, none⟩) 1 1) (hB : B ≤ W.heap.size)
    (h : ∀ g cap w', B ≤ g → w'.cell? ⟨g, 0, none⟩ = some (.int .u64 (d : Int)) → Below B W w' → wpList Try.prog ops Q rest (a.put o.dst (.slice (some ⟨g, 0, none⟩) 1 cap)) w') :
    wpList Try.prog ops Q (o :: rest) a (W.alloc (.cells #[.int .u64 (d : Int)] 22)) := by
  obtain ⟨i0, hi, hz0, hz1, hz2⟩ := info_parts Try.info22
  have hown := World.ownsRow_nil W B 22 1
  refine wpList_append_own _ hgd s x 33 ho B 22 i0 (.int .u64 0) 1 8 Try.underlying33 hi hz0 hz1 hz2 rfl (by decide) _ 0 [] hs (hown.alloc _) ⟨W.heap.size, 0, none⟩ 1 1 [.int .u64 (d : Int)] hx rfl ?_ ?_ ?_ ?_ ?_ ?_
  · intro j u hj
    match j, hj with
    | 0, hj => simp at hj; subst hj; simp [Addr.add]
  · intro u hu; simp at hu; subst hu; rfl
  · unfold maxLen; omega
  · omega
  · simp; omega
  · intro v' w' h1 h2 _
    have hb : Below B W w' := by
      refine (((Below.refl B W).alloc hB _).grown h2 (by simp; omega) ?_)
      intro g hg
      exact (hown.lt g hg).1
    rcases h1.2 with ⟨_, hn⟩ | ⟨g, cap, cur, rfl, hrest⟩
    · omega
    · have hc := h1.cells (g := g) rfl 0 (.int .u64 (d : Int)) (by simp)
      exact h g cap w' (by have := h1.lt g rfl; exact this.1) hc hb

theorem clo_any (b c : Nat) (t : Int) (k : Nat) (hk : max t 0 = (k : Int)) (h64 : k ≤ 64) (hb : b ≤ 18446744073709551615) (hc : c ≤ 18446744073709551615) (g : Nat) (w : World)
    (c0 : w.cell? ⟨g, 0, none⟩ = some (.int .u64 b)) (c1 : w.cell? ⟨g, 1, none⟩ = some (.int .u64 c)) (c2 : w.cell? ⟨g, 2, none⟩ = some (.int .i64 t))
    (f0 : w.frozen? ⟨g, 0, none⟩ = false) (f1 : w.frozen? ⟨g, 1, none⟩ = false) (f2 : w.frozen? ⟨g, 2, none⟩ = false) (hg : g < w.heap.size) :
    Calls Try.prog 13 #[.pointer (some ⟨g, 0, none⟩)] w fun e w' => e = .returned (.int .u64 (dl b c k : Nat)) ∧ Below g w w' := by
  have K5 := Lib.hid (fun w => delay_any b c t k hk h64 hb hc w)
  have K6 := Lib.hid (fun w => next_any b c t k hk w)
  generalize dl b c k = d at *
  generalize nx k = n at *
  have HG := Lib.hid hg
  clear hg hk
  go_enter Try.func13, Try.ntmps13
  go_wp2_with (first
    | (go_at_call 5; ((with_reducible refine (K5.out _).mono ?_); rintro e w1 ⟨rfl, hb1⟩; have HB1 := Lib.hid hb1; have d0 := (hb1.cell (p := ⟨g, 0, none⟩) HG.out).trans c0; have d1 := (hb1.cell (p := ⟨g, 1, none⟩) HG.out).trans c1; have d2 := (hb1.cell (p := ⟨g, 2, none⟩) HG.out).trans c2; have e0 := (hb1.frozen (p := ⟨g, 0, none⟩) HG.out).trans f0; have e1 := (hb1.frozen (p := ⟨g, 1, none⟩) HG.out).trans f1; have e2 := (hb1.frozen (p := ⟨g, 2, none⟩) HG.out).trans f2; clear hb1))
    | (go_at_call 6; ((with_reducible refine (K6.out _).mono ?_); rintro e w2 ⟨rfl, hb2⟩; have HB2 := Lib.hid hb2; have hl := Nat.lt_of_lt_of_le HG.out HB1.out.size; have x0 := (hb2.cell (p := ⟨g, 0, none⟩) hl).trans d0; have x1 := (hb2.cell (p := ⟨g, 1, none⟩) hl).trans d1; have x2 := (hb2.cell (p := ⟨g, 2, none⟩) hl).trans d2; have y0 := (hb2.frozen (p := ⟨g, 0, none⟩) hl).trans e0; have y1 := (hb2.frozen (p := ⟨g, 1, none⟩) hl).trans e1; have y2 := (hb2.frozen (p := ⟨g, 2, none⟩) hl).trans e2; clear hb2)))
  go_ret
  have l1 := HG.out
  have l2 := HB1.out.size
  have hb := (HB1.out.mono (B' := g) (by omega)).trans (HB2.out.mono (B' := g) (by omega))
  exact ⟨rfl, ((hb.setCell (p := ⟨g, 0, none⟩) (Nat.le_refl _) _).setCell (p := ⟨g, 1, none⟩) (Nat.le_refl _) _).setCell (p := ⟨g, 2, none⟩) (Nat.le_refl _) _⟩
def tot (n : Nat) (d : Nat) : Nat := if n = 0 then 0 else d
set_option maxHeartbeats 1000000 in
theorem total_any (b c : Nat) (t : Int) (k n : Nat) (hn : n ≤ 1) (hk : max t 0 = (k : Int)) (h64 : k ≤ 64) (hb : b ≤ 18446744073709551615) (hc : c ≤ 18446744073709551615) (w : World) :
    Calls Try.prog 9 #[.agg #[.int .u64 b, .int .u64 c, .int .i64 t], .int .i64 n] w fun e w' => e = .returned (.int .u64 (tot n (dl b c k) : Nat)) ∧ Below w.heap.size w w' := by
  have hd : dl b c k ≤ 18446744073709551615 := Nat.le_trans (dl_cap b c k) hc
  have K13 := Lib.hid (fun g w c0 c1 c2 f0 f1 f2 hg => clo_any b c t k hk h64 hb hc g w c0 c1 c2 f0 f1 f2 hg)
  generalize dl b c k = d at *
  have K14 := Lib.hid (fun g cap w hc => sum_one g cap d hd w hc)
  have K15 := Lib.hid (fun w => sum_none w)
  have hm : min (n : Int) 1000 = (n : Int) := by omega
  clear hk hb hc
  go_enter Try.func9, Try.ntmps9
  go_wp2
  go_loopw [6, 10] (fun v i wr => (i = .int .i64 0 ∧ v = .slice none 0 0 ∧ wr = w.alloc (.cells #[.int .u64 (b : Int), .int .u64 (c : Int), .int .i64 t] 24)) ∨
      (i = .int .i64 1 ∧ n = 1 ∧ ∃ g cap, v = .slice (some ⟨g, 0, none⟩) 1 cap ∧ wr.cell? ⟨g, 0, none⟩ = some (.int .u64 (d : Int)) ∧ Below w.heap.size w wr)) (fun _ i _ => 1 - (intOf i).toNat)
  case atStart => exact Or.inl ⟨rfl, rfl, rfl⟩
  case round =>
    rcases hrel with ⟨rfl, rfl, rfl⟩ | ⟨rfl, rfl, g, cap, rfl, hcell, hbel⟩
    · rcases (show n = 0 ∨ n = 1 by omega) with rfl | rfl
      · go_wp2_with (first
          | (go_at_call 14; ((with_reducible refine (K15.out _).mono ?_); rintro e w1 ⟨rfl, rfl⟩)))
        go_ret
        exact ⟨rfl, alloc_below _ _⟩
      · go_wp2_with (first
          | (go_at_call 13; (refine (K13.out w.heap.size _ (by simp) (by simp) (by simp) (by simp) (by simp) (by simp) (by simp)).mono ?_); rintro e w1 ⟨rfl, hb1⟩; have HB1 := Lib.hid hb1; clear hb1)
          | (at_builtin; go_must (refine wpList_append_u64 w1 rfl (.tmp 12) (.tmp 15) rfl w.heap.size rfl d rfl (by have := HB1.out.size; simp at this; omega) ?_); intro g cap w2 hg2 hc2 hb2; have HB2 := Lib.hid hb2; clear hb2))
        go_roundw
        case rel =>
          refine ⟨_, _, _, _, _, _, _, _, _, ?_, rfl⟩
          exact Or.inr ⟨by go_num, trivial, g, cap, rfl, hc2, ((alloc_below w _).trans HB1.out).trans HB2.out⟩
        case measure => simp [intOf]
    · have HB := Lib.hid hbel
      clear hbel
      go_wp2_with (first
        | (go_at_call 14; ((with_reducible refine (K14.out _ _ _ hcell).mono ?_); rintro e w1 ⟨rfl, rfl⟩)))
      go_ret
      exact ⟨rfl, HB.out⟩
end Go.Proofs.Ytogmaiijlpkeeaa

namespace Go.Proofs.Ytogmaiijlpkeeaa
open Go.RowKit

theorem d0 (w : World) : Calls Try.prog 5 #[.agg #[.int .u64 3, .int .u64 20, .int .i64 0]] w fun e w' => e = .returned (.int .u64 3) ∧ Below w.heap.size w w' := by
  have h := delay_any 3 20 0 0 rfl (by omega) (by omega) (by omega) w
  rw [show dl 3 20 0 = 3 from rfl] at h
  exact h
theorem d2 (w : World) : Calls Try.prog 5 #[.agg #[.int .u64 3, .int .u64 20, .int .i64 2]] w fun e w' => e = .returned (.int .u64 12) ∧ Below w.heap.size w w' := by
  have h := delay_any 3 20 2 2 rfl (by omega) (by omega) (by omega) w
  rw [show dl 3 20 2 = 12 from rfl] at h
  exact h
theorem d3 (w : World) : Calls Try.prog 5 #[.agg #[.int .u64 3, .int .u64 20, .int .i64 3]] w fun e w' => e = .returned (.int .u64 20) ∧ Below w.heap.size w w' := by
  have h := delay_any 3 20 3 3 rfl (by omega) (by omega) (by omega) w
  rw [show dl 3 20 3 = 20 from rfl] at h
  exact h
theorem n0 (w : World) : Calls Try.prog 6 #[.agg #[.int .u64 3, .int .u64 20, .int .i64 0]] w fun e w' => e = .returned (.agg #[.int .u64 3, .int .u64 20, .int .i64 1]) ∧ Below w.heap.size w w' := next_any 3 20 0 0 rfl w
theorem n1 (w : World) : Calls Try.prog 6 #[.agg #[.int .u64 3, .int .u64 20, .int .i64 1]] w fun e w' => e = .returned (.agg #[.int .u64 3, .int .u64 20, .int .i64 2]) ∧ Below w.heap.size w w' := next_any 3 20 1 1 rfl w
theorem n2 (w : World) : Calls Try.prog 6 #[.agg #[.int .u64 3, .int .u64 20, .int .i64 2]] w fun e w' => e = .returned (.agg #[.int .u64 3, .int .u64 20, .int .i64 3]) ∧ Below w.heap.size w w' := next_any 3 20 2 2 rfl w
theorem awake1_any (w : World) : Calls Try.prog 10 #[] w fun e w' => e = .returned (.bool true) ∧ Below w.heap.size w w' := by
  have K := Lib.hid (fun w => W.awake_any w)
  go_enter Try.func10, Try.ntmps10
  go_wp2_with (first | (go_at_call 15; ((with_reducible refine (K.out _).mono ?_); rintro e w1 ⟨rfl, hb1⟩)))
  go_ret
  exact ⟨rfl, hb1⟩
set_option maxHeartbeats 1000000 in
theorem awake18_any (w : World) : Calls Try.prog 4 #[] w fun e w' => e = .returned (.bool true) ∧ Below w.heap.size w w' := by
  have K10 := Lib.hid (fun w => awake1_any w)
  have A0 := Lib.hid (fun w => d0 w)
  have A2 := Lib.hid (fun w => d2 w)
  have A3 := Lib.hid (fun w => d3 w)
  have N0 := Lib.hid (fun w => n0 w)
  have N1 := Lib.hid (fun w => n1 w)
  have N2 := Lib.hid (fun w => n2 w)
  have HB := Lib.hid (Below.refl (w.alloc (.cells #[.int .u64 3, .int .u64 20, .int .i64 0] 24)).heap.size (w.alloc (.cells #[.int .u64 3, .int .u64 20, .int .i64 0] 24)))
  go_enter Try.func4, Try.ntmps4
  go_wp2_with (first
    | (go_at_call 10; ((with_reducible refine (K10.out _).mono ?_); rintro e w1 ⟨rfl, hk⟩; replace HB := Lib.hid (HB.out.trans (hk.mono HB.out.size)); obtain ⟨c0, c1, c2⟩ := box3 HB.out; clear hk))
    | (go_at_call 5; (first
        | ((with_reducible refine (A0.out _).mono ?_); rintro e w1 ⟨rfl, hk⟩; replace HB := Lib.hid (HB.out.trans (hk.mono HB.out.size)); obtain ⟨c0, c1, c2⟩ := box3 HB.out; clear hk)
        | ((with_reducible refine (A2.out _).mono ?_); rintro e w1 ⟨rfl, hk⟩; replace HB := Lib.hid (HB.out.trans (hk.mono HB.out.size)); obtain ⟨c0, c1, c2⟩ := box3 HB.out; clear hk)
        | ((with_reducible refine (A3.out _).mono ?_); rintro e w1 ⟨rfl, hk⟩; replace HB := Lib.hid (HB.out.trans (hk.mono HB.out.size)); obtain ⟨c0, c1, c2⟩ := box3 HB.out; clear hk)))
    | (go_at_call 6; (first
        | ((with_reducible refine (N0.out _).mono ?_); rintro e w1 ⟨rfl, hk⟩; replace HB := Lib.hid (HB.out.trans (hk.mono HB.out.size)); obtain ⟨c0, c1, c2⟩ := box3 HB.out; clear hk)
        | ((with_reducible refine (N1.out _).mono ?_); rintro e w1 ⟨rfl, hk⟩; replace HB := Lib.hid (HB.out.trans (hk.mono HB.out.size)); obtain ⟨c0, c1, c2⟩ := box3 HB.out; clear hk)
        | ((with_reducible refine (N2.out _).mono ?_); rintro e w1 ⟨rfl, hk⟩; replace HB := Lib.hid (HB.out.trans (hk.mono HB.out.size)); obtain ⟨c0, c1, c2⟩ := box3 HB.out; clear hk))))
  go_ret
  exact ⟨rfl, bt HB.out⟩
end Go.Proofs.Ytogmaiijlpkeeaa

namespace Go.Proofs.Ytogmaiijlpkeeaa
open Go.RowKit

theorem blH_drew {b : Nat} {w wz : World} (h : Hid (Below b w wz)) : Hid (Below b w wz.drew) := Lib.hid h.out.drew
theorem blH_undrew {b : Nat} {w wz : World} (h : Hid (Below b w wz.drew)) : Hid (Below b w wz) := Lib.hid ⟨h.out.os, h.out.tape, h.out.output, h.out.size, h.out.block⟩
/-- A contract at any world behind w. -/
theorem later {f : Nat} {args : Array Value} {v : Value} {w : World} (K : ∀ w, Calls Try.prog f args w fun e w' => e = .returned v ∧ Below w.heap.size w w') :
    Hid (∀ wz, Hid (Below w.heap.size w wz) → Calls Try.prog f args wz fun e w' => e = .returned v ∧ Hid (Below w.heap.size w w')) :=
  Lib.hid (fun wz h => (K wz).mono fun e w' ⟨h1, h2⟩ => ⟨h1, Lib.hid (h.out.trans (h2.mono h.out.size))⟩)

set_option maxHeartbeats 4000000 in
set_option maxRecDepth 100000 in
theorem rises_walk (b c x : Nat) (t : Int) (hb : b ≤ 18446744073709551615) (hc : c ≤ 18446744073709551615) (hx : x ≤ 18446744073709551615) (w : World) :
    Calls Try.prog 3 #[.agg #[.int .u64 b, .int .u64 c, .int .i64 t], .int .u64 x] w fun e w' => e = .returned (.bool true) ∧ Below w.heap.size w w' := by
  have K4 := Lib.hid (fun w => awake18_any w)
  by_cases h64 : 64 < t
  · go_enter Try.func3, Try.ntmps3
    go_wp2_with (first
      | (go_at_call 4; ((with_reducible refine (K4.out _).mono ?_); rintro e w1 ⟨rfl, hb1⟩; have HB := Lib.hid hb1; obtain ⟨c0, c1, c2⟩ := box3 hb1; clear hb1)))
    go_ret
    exact ⟨rfl, bt HB.out⟩
  · obtain ⟨k, hk⟩ : ∃ k : Nat, max t 0 = (k : Int) := ⟨(max t 0).toNat, by omega⟩
    have hk64 : k ≤ 64 := by omega
    have q5a := fun w => delay_any b c t k hk hk64 hb hc w
    have q6 := fun w => next_any b c t k hk w
    have q5b := fun w => delay_any b c (nx k : Nat) (nx k) (by omega) (by unfold nx; omega) hb hc w
    have q7 := fun w => jitter_any b c t k x hk hk64 hb hc hx w
    have q8 := fun w => reset_any b c t w
    have q5c : ∀ w, Calls Try.prog 5 #[.agg #[.int .u64 b, .int .u64 c, .int .i64 0]] w fun e w' => e = .returned (.int .u64 (dl b c 0 : Nat)) ∧ Below w.heap.size w w' := fun w => delay_any b c 0 0 rfl (by omega) hb hc w
    have q91 : ∀ w, Calls Try.prog 9 #[.agg #[.int .u64 b, .int .u64 c, .int .i64 t], .int .i64 1] w fun e w' => e = .returned (.int .u64 (dl b c k : Nat)) ∧ Below w.heap.size w w' := fun w => total_any b c t k 1 (by omega) hk hk64 hb hc w
    have q90 : ∀ w, Calls Try.prog 9 #[.agg #[.int .u64 b, .int .u64 c, .int .i64 t], .int .i64 0] w fun e w' => e = .returned (.int .u64 0) ∧ Below w.heap.size w w' := fun w => total_any b c t k 0 (by omega) hk hk64 hb hc w
    have m1 : dl b c k ≤ dl b c (nx k) := by
      unfold nx
      by_cases h : k ≤ 63
      · exact dl_mono b c k _ (by omega)
      · have e : k = 64 := by omega
        subst e
        exact dl_mono b c 64 _ (by omega)
    have m2 := dl_cap b c (nx k)
    have m5 : b ≤ c → dl b c 0 = b := dl_zero b c
    have j1 : dl b c k / 2 ≤ jit (dl b c k) x := by unfold jit; omega
    have j2 : jit (dl b c k) x ≤ dl b c k := by
      unfold jit
      have := Nat.mod_lt x (show 0 < dl b c k - dl b c k / 2 + 1 by omega)
      omega
    have m0 : dl b c k ≤ 18446744073709551615 := Nat.le_trans (dl_cap b c k) hc
    generalize hz : dl b c 0 = z at *
    generalize dl b c (nx k) = a2 at *
    generalize dl b c k = a at *
    generalize jit a x = j at *
    generalize nx k = n at *
    obtain ⟨h, hh⟩ : ∃ h : Nat, h = a / 2 := ⟨_, rfl⟩
    have eh : (a : Int) / 2 = (h : Int) := by omega
    have fw : IntKind.u64.wrap (h : Int) = (h : Int) := IntWalk.u64_in _ ⟨by omega, by omega⟩
    have f1 : a ≤ a2 := by omega
    have f2 : a2 ≤ c := by omega
    have f3 : h ≤ j := by omega
    have f4 : j ≤ a := by omega
    clear hh j1 j2 m1 m2 m0 hk hz
    have Q5a := Lib.hid q5a
    have Q6 := Lib.hid q6
    have Q5b := Lib.hid q5b
    have Q7 := Lib.hid q7
    have Q8 := Lib.hid q8
    have Q5c := Lib.hid q5c
    have Q91 := Lib.hid q91
    have Q90 := Lib.hid q90
    clear q5a q6 q5b q7 q8 q5c q91 q90
    have M5 := Lib.hid m5
    clear m5
    go_enter Try.func3, Try.ntmps3
    go_wp2_with (first
      | (go_at_call 4; ((with_reducible refine (K4.out _).mono ?_); rintro e w1 ⟨rfl, hb1⟩; have HB := Lib.hid hb1; obtain ⟨c0, c1, c2⟩ := box3 hb1; clear hb1)))
    have R5a := later (w := w1) Q5a.out
    have R6 := later (w := w1) Q6.out
    have R5b := later (w := w1) Q5b.out
    have HR : Hid (∀ wz, Hid (Below w1.heap.size w1 wz) → wz.cell? ⟨w.heap.size, 0, none⟩ = some (.int .u64 (b : Int)) ∧ wz.cell? ⟨w.heap.size, 1, none⟩ = some (.int .u64 (c : Int)) ∧ wz.cell? ⟨w.heap.size, 2, none⟩ = some (.int .i64 t) ∧ Hid (Below w1.heap.size w1 wz)) :=
      Lib.hid (fun wz h => ⟨(box3 (HB.out.trans (h.out.mono HB.out.size))).1, (box3 (HB.out.trans (h.out.mono HB.out.size))).2.1, (box3 (HB.out.trans (h.out.mono HB.out.size))).2.2, h⟩)
    go_region_held3 (fun wz => wz.cell? ⟨w.heap.size, 0, none⟩ = some (.int .u64 (b : Int)) ∧ wz.cell? ⟨w.heap.size, 1, none⟩ = some (.int .u64 (c : Int)) ∧ wz.cell? ⟨w.heap.size, 2, none⟩ = some (.int .i64 t) ∧ Hid (Below w1.heap.size w1 wz))
      (first | exact HR.out _ (by assumption) | (refine HR.out _ (blH_drew ?_); assumption) | (refine HR.out _ (blH_undrew ?_); assumption) | (exact HR.out _ (Lib.hid (Below.refl _ _).drew)))
      (first
        | (go_at_call 5; ((with_reducible refine (R5a.out _ ?_).mono ?_); (first | assumption | exact Lib.hid (Below.refl _ _).drew | exact Lib.hid (Below.refl _ _)); rintro e w2 ⟨rfl, hb2⟩))
        | (go_at_call 5; ((with_reducible refine (R5b.out _ ?_).mono ?_); (first | assumption | exact Lib.hid (Below.refl _ _).drew | exact Lib.hid (Below.refl _ _)); rintro e w2 ⟨rfl, hb2⟩))
        | (go_at_call 6; ((with_reducible refine (R6.out _ ?_).mono ?_); (first | assumption | exact Lib.hid (Below.refl _ _).drew | exact Lib.hid (Below.refl _ _)); rintro e w2 ⟨rfl, hb2⟩)))
    simp only [Exit.then]
    apply_assumption
    have R7 := later (w := w1) Q7.out
    have R8 := later (w := w1) Q8.out
    have R91 := later (w := w1) Q91.out
    have R90 := later (w := w1) Q90.out
    obtain ⟨x0, x1, x2, _⟩ := HR.out _ hb2
    clear R5a R5b R6
    go_wp2_with (first
      | (go_at_call 7; ((with_reducible refine (R7.out _ ?_).mono ?_); assumption; rintro e w3 ⟨rfl, hb3⟩)))
    have HX := HR.out _ hb3
    clear x0 x1 x2 c0 c1 c2 R7
    by_cases hbc : c < b
    · have f5 : decide (c < b) = true := by rw [decide_eq_true_iff]; exact hbc
      refine wp_region_held_drew (S := (fun wz => wz.cell? ⟨w.heap.size, 0, none⟩ = some (.int .u64 (b : Int)) ∧ wz.cell? ⟨w.heap.size, 1, none⟩ = some (.int .u64 (c : Int)) ∧ wz.cell? ⟨w.heap.size, 2, none⟩ = some (.int .i64 t) ∧ Hid (Below w1.heap.size w1 wz))) (by kernel_rfl) (HR.out _ (blH_drew hb3)) (fun hHeld => ?_)
      refine wpAnyH_take (i := 0) (oi := ⟨some 21, _, _, _, _, _⟩) (v := ?_) rfl (by kernel_rfl) (by kernel_rfl) (by kernel_rfl) (fun _ _ _ h => h) (Or.inl ⟨by rfl, by (intro w hSw; (try dsimp only at hSw); go_simp; try with_reducible rfl)⟩) hHeld ?_
      try simp only [Act.put, List.setIfInBounds_toArray, List.set_cons_zero, List.set_cons_succ]
      refine wpAnyH_take (i := 1) (oi := ⟨some 22, _, _, _, _, _⟩) (v := ?_) rfl (by kernel_rfl) (by kernel_rfl) (by kernel_rfl) (fun _ _ _ h => h) (Or.inl ⟨by rfl, by (intro w hSw; (try dsimp only at hSw); go_simp; try with_reducible rfl)⟩) hHeld ?_
      try simp only [Act.put, List.setIfInBounds_toArray, List.set_cons_zero, List.set_cons_succ]
      refine wpAnyH_take (i := 2) (oi := ⟨some 23, _, _, _, _, _⟩) (v := ?_) rfl (by kernel_rfl) (by kernel_rfl) (by kernel_rfl) (fun _ _ _ h => h) (Or.inl ⟨by rfl, by (intro w hSw; (try dsimp only at hSw); go_simp; try with_reducible rfl)⟩) hHeld ?_
      try simp only [Act.put, List.setIfInBounds_toArray, List.set_cons_zero, List.set_cons_succ]
      refine wpAnyH_take (i := 3) (oi := ⟨some 24, _, _, _, _, _⟩) (v := ?_) rfl (by kernel_rfl) (by kernel_rfl) (by kernel_rfl) (fun _ _ _ h => h) (Or.inl ⟨by rfl, by (intro w hSw; (try dsimp only at hSw); go_simp; try with_reducible rfl)⟩) hHeld ?_
      try simp only [Act.put, List.setIfInBounds_toArray, List.set_cons_zero, List.set_cons_succ]
      refine wpAnyH_take (i := 4) (oi := ⟨some 25, _, _, _, _, _⟩) (v := ?_) rfl (by kernel_rfl) (by kernel_rfl) (by kernel_rfl) (fun _ _ _ h => h) (Or.inl ⟨by rfl, by (intro w hSw; (try dsimp only at hSw); go_simp; try with_reducible rfl)⟩) hHeld ?_
      try simp only [Act.put, List.setIfInBounds_toArray, List.set_cons_zero, List.set_cons_succ]
      refine wpAnyH_take (i := 5) (oi := ⟨some 26, _, _, _, _, _⟩) (v := ?_) rfl (by kernel_rfl) (by kernel_rfl) (by kernel_rfl) (fun _ _ _ h => h) (Or.inl ⟨by rfl, by (intro w hSw; (try dsimp only at hSw); go_simp; try with_reducible rfl)⟩) hHeld ?_
      try simp only [Act.put, List.setIfInBounds_toArray, List.set_cons_zero, List.set_cons_succ]
      refine wpAnyH_take (i := 6) (oi := ⟨some 27, _, _, _, _, _⟩) (v := ?_) rfl (by kernel_rfl) (by kernel_rfl) (by kernel_rfl) (fun _ _ _ h => h) (Or.inl ⟨by rfl, by (intro w hSw; (try dsimp only at hSw); go_simp; try with_reducible rfl)⟩) hHeld ?_
      try simp only [Act.put, List.setIfInBounds_toArray, List.set_cons_zero, List.set_cons_succ]
      refine wpAnyH_take (i := 7) (oi := ⟨some 28, _, _, _, _, _⟩) (v := ?_) rfl (by kernel_rfl) (by kernel_rfl) (by kernel_rfl) (fun _ _ _ h => h) (Or.inl ⟨by rfl, by (intro w hSw; (try dsimp only at hSw); go_simp; try with_reducible rfl)⟩) hHeld ?_
      try simp only [Act.put, List.setIfInBounds_toArray, List.set_cons_zero, List.set_cons_succ]
      refine wpAnyH_take (i := 8) (oi := ⟨some 29, _, _, _, _, _⟩) (v := ?_) rfl (by kernel_rfl) (by kernel_rfl) (by kernel_rfl) (fun _ _ _ h => h) (Or.inl ⟨by rfl, by (intro w hSw; (try dsimp only at hSw); go_simp; try with_reducible rfl)⟩) hHeld ?_
      try simp only [Act.put, List.setIfInBounds_toArray, List.set_cons_zero, List.set_cons_succ]
      refine wpAnyH_take (i := 9) (oi := ⟨some 30, _, _, _, _, _⟩) (v := ?_) rfl (by kernel_rfl) (by kernel_rfl) (by kernel_rfl) (fun _ _ _ h => h) (Or.inl ⟨by rfl, by (intro w hSw; (try dsimp only at hSw); go_simp; try with_reducible rfl)⟩) hHeld ?_
      try simp only [Act.put, List.setIfInBounds_toArray, List.set_cons_zero, List.set_cons_succ]
      refine wpAnyH_take (i := 10) (oi := ⟨some 31, _, _, _, _, _⟩) (v := ?_) rfl (by kernel_rfl) (by kernel_rfl) (by kernel_rfl) (fun _ _ _ h => h) (Or.inl ⟨by rfl, by (intro w hSw; (try dsimp only at hSw); go_simp; try with_reducible rfl)⟩) hHeld ?_
      try simp only [Act.put, List.setIfInBounds_toArray, List.set_cons_zero, List.set_cons_succ]
      refine wpAnyH_take (i := 11) (oi := ⟨some 32, _, _, _, _, _⟩) (v := ?_) rfl (by kernel_rfl) (by kernel_rfl) (by kernel_rfl) (fun _ _ _ h => h) (Or.inl ⟨by rfl, by (intro w hSw; (try dsimp only at hSw); go_simp; try with_reducible rfl)⟩) hHeld ?_
      try simp only [Act.put, List.setIfInBounds_toArray, List.set_cons_zero, List.set_cons_succ]
      refine wpAnyH_take (i := 12) (oi := ⟨some 33, _, _, _, _, _⟩) (v := ?_) rfl (by kernel_rfl) (by kernel_rfl) (by kernel_rfl) (fun _ _ _ h => h) (Or.inl ⟨by rfl, by (intro w hSw; (try dsimp only at hSw); go_simp; try with_reducible rfl)⟩) hHeld ?_
      try simp only [Act.put, List.setIfInBounds_toArray, List.set_cons_zero, List.set_cons_succ]
      refine wpAnyH_take (i := 13) (oi := ⟨some 34, _, _, _, _, _⟩) (v := ?_) rfl (by kernel_rfl) (by kernel_rfl) (by kernel_rfl) (fun _ _ _ h => h) (Or.inl ⟨by rfl, by (intro w hSw; (try dsimp only at hSw); go_simp; try with_reducible rfl)⟩) hHeld ?_
      try simp only [Act.put, List.setIfInBounds_toArray, List.set_cons_zero, List.set_cons_succ]
      refine wpAnyH_take (i := 14) (oi := ⟨some 35, _, _, _, _, _⟩) (v := ?_) rfl (by kernel_rfl) (by kernel_rfl) (by kernel_rfl) (fun _ _ _ h => h) (Or.inl ⟨by rfl, by (intro w hSw; (try dsimp only at hSw); go_simp; try with_reducible rfl)⟩) hHeld ?_
      try simp only [Act.put, List.setIfInBounds_toArray, List.set_cons_zero, List.set_cons_succ]
      refine wpAnyH_take (i := 15) (oi := ⟨some 36, _, _, _, _, _⟩) (v := ?_) rfl (by kernel_rfl) (by kernel_rfl) (by kernel_rfl) (fun _ _ _ h => h) (Or.inl ⟨by rfl, by (intro w hSw; (try dsimp only at hSw); go_simp; try with_reducible rfl)⟩) hHeld ?_
      try simp only [Act.put, List.setIfInBounds_toArray, List.set_cons_zero, List.set_cons_succ]
      refine wpAnyH_take (i := 16) (oi := ⟨some 37, _, _, _, _, _⟩) (v := ?_) rfl (by kernel_rfl) (by kernel_rfl) (by kernel_rfl) (fun _ _ _ h => h) (Or.inl ⟨by rfl, by (intro w hSw; (try dsimp only at hSw); go_simp; try with_reducible rfl)⟩) hHeld ?_
      try simp only [Act.put, List.setIfInBounds_toArray, List.set_cons_zero, List.set_cons_succ]
      refine wpAnyH_take (i := 17) (oi := ⟨some 38, _, _, _, _, _⟩) (v := ?_) rfl (by kernel_rfl) (by kernel_rfl) (by kernel_rfl) (fun _ _ _ h => h) (Or.inl ⟨by rfl, by (intro w hSw; (try dsimp only at hSw); go_simp; try with_reducible rfl)⟩) hHeld ?_
      try simp only [Act.put, List.setIfInBounds_toArray, List.set_cons_zero, List.set_cons_succ]
      refine wpAnyH_take (i := 18) (oi := ⟨some 39, _, _, _, _, _⟩) (v := ?_) rfl (by kernel_rfl) (by kernel_rfl) (by kernel_rfl) (fun _ _ _ h => h) (Or.inl ⟨by rfl, by (intro w hSw; (try dsimp only at hSw); go_simp; try with_reducible rfl)⟩) hHeld ?_
      try simp only [Act.put, List.setIfInBounds_toArray, List.set_cons_zero, List.set_cons_succ]
      refine wpAnyH_take (i := 19) (oi := ⟨some 40, _, _, _, _, _⟩) (v := ?_) rfl (by kernel_rfl) (by kernel_rfl) (by kernel_rfl) (fun _ _ _ h => h) (Or.inl ⟨by rfl, by (intro w hSw; (try dsimp only at hSw); go_simp; try with_reducible rfl)⟩) hHeld ?_
      try simp only [Act.put, List.setIfInBounds_toArray, List.set_cons_zero, List.set_cons_succ]
      refine wpAnyH_take (i := 20) (oi := ⟨some 41, _, _, _, _, _⟩) (v := ?_) rfl (by kernel_rfl) (by kernel_rfl) (by kernel_rfl) (fun _ _ _ h => h) (Or.inl ⟨by rfl, by (intro w hSw; (try dsimp only at hSw); go_simp; try with_reducible rfl)⟩) hHeld ?_
      try simp only [Act.put, List.setIfInBounds_toArray, List.set_cons_zero, List.set_cons_succ]
      refine wpAnyH_take (i := 21) (oi := ⟨some 42, _, _, _, _, _⟩) (v := ?_) rfl (by kernel_rfl) (by kernel_rfl) (by kernel_rfl) (fun _ _ _ h => h) (Or.inl ⟨by rfl, by (intro w hSw; (try dsimp only at hSw); go_simp; try with_reducible rfl)⟩) hHeld ?_
      try simp only [Act.put, List.setIfInBounds_toArray, List.set_cons_zero, List.set_cons_succ]
      refine wpAnyH_take (i := 22) (oi := ⟨some 43, _, _, _, _, _⟩) (v := ?_) rfl (by kernel_rfl) (by kernel_rfl) (by kernel_rfl) (fun _ _ _ h => h) (Or.inl ⟨by rfl, by (intro w hSw; (try dsimp only at hSw); go_simp; try with_reducible rfl)⟩) hHeld ?_
      try simp only [Act.put, List.setIfInBounds_toArray, List.set_cons_zero, List.set_cons_succ]
      refine wpAnyH_take (i := 23) (oi := ⟨some 44, _, _, _, _, _⟩) (v := ?_) rfl (by kernel_rfl) (by kernel_rfl) (by kernel_rfl) (fun _ _ _ h => h) (Or.inl ⟨by rfl, by (intro w hSw; (try dsimp only at hSw); go_simp; try with_reducible rfl)⟩) hHeld ?_
      try simp only [Act.put, List.setIfInBounds_toArray, List.set_cons_zero, List.set_cons_succ]
      refine wpAnyH_take (i := 24) (oi := ⟨some 45, _, _, _, _, _⟩) (v := ?_) rfl (by kernel_rfl) (by kernel_rfl) (by kernel_rfl) (fun _ _ _ h => h) (Or.inl ⟨by rfl, by (intro w hSw; (try dsimp only at hSw); go_simp; try with_reducible rfl)⟩) hHeld ?_
      try simp only [Act.put, List.setIfInBounds_toArray, List.set_cons_zero, List.set_cons_succ]
      refine wpAnyH_take (i := 25) (oi := ⟨some 46, _, _, _, _, _⟩) (v := ?_) rfl (by kernel_rfl) (by kernel_rfl) (by kernel_rfl) (fun _ _ _ h => h) (Or.inl ⟨by rfl, by (intro w hSw; (try dsimp only at hSw); go_simp; try with_reducible rfl)⟩) hHeld ?_
      try simp only [Act.put, List.setIfInBounds_toArray, List.set_cons_zero, List.set_cons_succ]
      refine wpAnyH_take (i := 26) (oi := ⟨some 47, _, _, _, _, _⟩) (v := ?_) rfl (by kernel_rfl) (by kernel_rfl) (by kernel_rfl) (fun _ _ _ h => h) (Or.inl ⟨by rfl, by (intro w hSw; (try dsimp only at hSw); go_simp; try with_reducible rfl)⟩) hHeld ?_
      try simp only [Act.put, List.setIfInBounds_toArray, List.set_cons_zero, List.set_cons_succ]
      refine wpAnyH_take (i := 27) (oi := ⟨some 48, _, _, _, _, _⟩) (v := undef) rfl (by kernel_rfl) (by kernel_rfl) (by kernel_rfl) (fun _ _ _ h => h) (Or.inr ⟨by rfl, rfl⟩) hHeld ?_
      try simp only [Act.put, List.setIfInBounds_toArray, List.set_cons_zero, List.set_cons_succ]
      refine wpAnyH_take (i := 28) (oi := ⟨some 49, _, _, _, _, _⟩) (v := undef) rfl (by kernel_rfl) (by kernel_rfl) (by kernel_rfl) (fun _ _ _ h => h) (Or.inr ⟨by rfl, rfl⟩) hHeld ?_
      try simp only [Act.put, List.setIfInBounds_toArray, List.set_cons_zero, List.set_cons_succ]
      refine wpAnyH_take (i := 29) (oi := ⟨some 50, _, _, _, _, _⟩) (v := undef) rfl (by kernel_rfl) (by kernel_rfl) (by kernel_rfl) (fun _ _ _ h => h) (Or.inr ⟨by rfl, rfl⟩) hHeld ?_
      try simp only [Act.put, List.setIfInBounds_toArray, List.set_cons_zero, List.set_cons_succ]
      refine wpAnyH_take (i := 30) (oi := ⟨some 51, _, _, _, _, _⟩) (v := undef) rfl (by kernel_rfl) (by kernel_rfl) (by kernel_rfl) (fun _ _ _ h => h) (Or.inr ⟨by rfl, rfl⟩) hHeld ?_
      try simp only [Act.put, List.setIfInBounds_toArray, List.set_cons_zero, List.set_cons_succ]
      refine wpAnyH_take (i := 31) (oi := ⟨some 52, _, _, _, _, _⟩) (v := undef) rfl (by kernel_rfl) (by kernel_rfl) (by kernel_rfl) (fun _ _ _ h => h) (Or.inr ⟨by rfl, rfl⟩) hHeld ?_
      try simp only [Act.put, List.setIfInBounds_toArray, List.set_cons_zero, List.set_cons_succ]
      refine wpAnyH_take (i := 32) (oi := ⟨some 53, _, _, _, _, _⟩) (v := undef) rfl (by kernel_rfl) (by kernel_rfl) (by kernel_rfl) (fun _ _ _ h => h) (Or.inr ⟨by rfl, rfl⟩) hHeld ?_
      try simp only [Act.put, List.setIfInBounds_toArray, List.set_cons_zero, List.set_cons_succ]
      refine wpAnyH_take (i := 33) (oi := ⟨some 54, _, _, _, _, _⟩) (v := ?_) rfl (by kernel_rfl) (by kernel_rfl) (by kernel_rfl) (fun _ _ _ h => h) (Or.inl ⟨by rfl, by (intro w hSw; (try dsimp only at hSw); go_simp; try with_reducible rfl)⟩) hHeld ?_
      try simp only [Act.put, List.setIfInBounds_toArray, List.set_cons_zero, List.set_cons_succ]
      refine wpAnyH_take (i := 34) (oi := ⟨some 55, _, _, _, _, _⟩) (v := ?_) rfl (by kernel_rfl) (by kernel_rfl) (by kernel_rfl) (fun _ _ _ h => h) (Or.inl ⟨by rfl, by (intro w hSw; (try dsimp only at hSw); go_simp; try with_reducible rfl)⟩) hHeld ?_
      try simp only [Act.put, List.setIfInBounds_toArray, List.set_cons_zero, List.set_cons_succ]
      refine wpAnyH_take (i := 35) (oi := ⟨some 56, _, _, _, _, _⟩) (v := ?_) rfl (by kernel_rfl) (by kernel_rfl) (by kernel_rfl) (fun _ _ _ h => h) (Or.inl ⟨by rfl, by (intro w hSw; (try dsimp only at hSw); go_simp; try with_reducible rfl)⟩) hHeld ?_
      try simp only [Act.put, List.setIfInBounds_toArray, List.set_cons_zero, List.set_cons_succ]
      refine wpAnyH_take (i := 36) (oi := ⟨some 57, _, _, _, _, _⟩) (v := ?_) rfl (by kernel_rfl) (by kernel_rfl) (by kernel_rfl) (fun _ _ _ h => h) (Or.inl ⟨by rfl, by (intro w hSw; (try dsimp only at hSw); go_simp; try with_reducible rfl)⟩) hHeld ?_
      try simp only [Act.put, List.setIfInBounds_toArray, List.set_cons_zero, List.set_cons_succ]
      refine wpAnyH_take (i := 38) (oi := ⟨some 59, _, _, _, _, _⟩) (v := ?_) rfl (by kernel_rfl) (by kernel_rfl) (by kernel_rfl) (fun _ _ _ h => h) (Or.inl ⟨by rfl, by (intro w hSw; (try dsimp only at hSw); go_simp; try with_reducible rfl)⟩) hHeld ?_
      try simp only [Act.put, List.setIfInBounds_toArray, List.set_cons_zero, List.set_cons_succ]
      refine wpAnyH_ready (rs := [37]) (by kernel_rfl) (by simp) ?_
      refine AllReadyH.cons (o := ⟨some 58, _, _, _, _, _⟩) rfl (fun K hK => ?_) AllReadyH.nil
      go_simp
      refine (R91.out _ hHeld.2.2.2).mono ?_
      rintro e w5 ⟨rfl, hb5⟩
      try go_simp
      refine hK.out _ _ (HR.out _ hb5) (fun hHeld2 => ?_)
      clear hK K hHeld
      have hHeld := hHeld2
      clear hHeld2
      try simp only [Act.put, List.setIfInBounds_toArray, List.set_cons_zero, List.set_cons_succ]
      refine wpAnyH_take (i := 39) (oi := ⟨some 60, _, _, _, _, _⟩) (v := ?_) rfl (by kernel_rfl) (by kernel_rfl) (by kernel_rfl) (fun _ _ _ h => h) (Or.inl ⟨by rfl, by (intro w hSw; (try dsimp only at hSw); go_simp; try with_reducible rfl)⟩) hHeld ?_
      try simp only [Act.put, List.setIfInBounds_toArray, List.set_cons_zero, List.set_cons_succ]
      refine wpAnyH_take (i := 40) (oi := ⟨some 61, _, _, _, _, _⟩) (v := ?_) rfl (by kernel_rfl) (by kernel_rfl) (by kernel_rfl) (fun _ _ _ h => h) (Or.inl ⟨by rfl, by (intro w hSw; (try dsimp only at hSw); go_simp; try with_reducible rfl)⟩) hHeld ?_
      try simp only [Act.put, List.setIfInBounds_toArray, List.set_cons_zero, List.set_cons_succ]
      refine wpAnyH_take (i := 41) (oi := ⟨some 62, _, _, _, _, _⟩) (v := ?_) rfl (by kernel_rfl) (by kernel_rfl) (by kernel_rfl) (fun _ _ _ h => h) (Or.inl ⟨by rfl, by (intro w hSw; (try dsimp only at hSw); go_simp; try with_reducible rfl)⟩) hHeld ?_
      try simp only [Act.put, List.setIfInBounds_toArray, List.set_cons_zero, List.set_cons_succ]
      refine wpAnyH_take (i := 42) (oi := ⟨some 63, _, _, _, _, _⟩) (v := ?_) rfl (by kernel_rfl) (by kernel_rfl) (by kernel_rfl) (fun _ _ _ h => h) (Or.inl ⟨by rfl, by (intro w hSw; (try dsimp only at hSw); go_simp; try with_reducible rfl)⟩) hHeld ?_
      try simp only [Act.put, List.setIfInBounds_toArray, List.set_cons_zero, List.set_cons_succ]
      refine wpAnyH_ready (rs := [43]) (by kernel_rfl) (by simp) ?_
      refine AllReadyH.cons (o := ⟨some 64, _, _, _, _, _⟩) rfl (fun K hK => ?_) AllReadyH.nil
      go_simp
      refine (R90.out _ hHeld.2.2.2).mono ?_
      rintro e w5 ⟨rfl, hb5⟩
      try go_simp
      refine hK.out _ _ (HR.out _ hb5) (fun hHeld2 => ?_)
      clear hK K hHeld
      have hHeld := hHeld2
      clear hHeld2
      try simp only [Act.put, List.setIfInBounds_toArray, List.set_cons_zero, List.set_cons_succ]
      refine wpAnyH_take (i := 44) (oi := ⟨some 65, _, _, _, _, _⟩) (v := ?_) rfl (by kernel_rfl) (by kernel_rfl) (by kernel_rfl) (fun _ _ _ h => h) (Or.inl ⟨by rfl, by (intro w hSw; (try dsimp only at hSw); go_simp; try with_reducible rfl)⟩) hHeld ?_
      try simp only [Act.put, List.setIfInBounds_toArray, List.set_cons_zero, List.set_cons_succ]
      refine wpAnyH_take (i := 45) (oi := ⟨some 66, _, _, _, _, _⟩) (v := ?_) rfl (by kernel_rfl) (by kernel_rfl) (by kernel_rfl) (fun _ _ _ h => h) (Or.inl ⟨by rfl, by (intro w hSw; (try dsimp only at hSw); go_simp; try with_reducible rfl)⟩) hHeld ?_
      try simp only [Act.put, List.setIfInBounds_toArray, List.set_cons_zero, List.set_cons_succ]
      refine wpAnyH_take (i := 46) (oi := ⟨some 4, _, _, _, _, _⟩) (v := ?_) rfl (by kernel_rfl) (by kernel_rfl) (by kernel_rfl) (fun _ _ _ h => h) (Or.inl ⟨by rfl, by (intro w hSw; (try dsimp only at hSw); go_simp; try with_reducible rfl)⟩) hHeld ?_
      try simp only [Act.put, List.setIfInBounds_toArray, List.set_cons_zero, List.set_cons_succ]
      refine wpAnyH_done (by kernel_rfl) ?_ _
      simp only [Exit.then]
      apply_assumption
      go_wp2
      go_ret
      exact ⟨rfl, bt (HB.out.trans (hHeld.2.2.2.out.mono HB.out.size))⟩
    · have f5 : decide (c < b) = false := by rw [decide_eq_false_iff_not]; omega
      have e5 := M5.out (by omega)
      subst e5
      have R5c := later (w := w1) Q5c.out
      have f6 : ¬ c < z := by omega
      clear hbc
      go_region_held3 (fun wz => wz.cell? ⟨w.heap.size, 0, none⟩ = some (.int .u64 (z : Int)) ∧ wz.cell? ⟨w.heap.size, 1, none⟩ = some (.int .u64 (c : Int)) ∧ wz.cell? ⟨w.heap.size, 2, none⟩ = some (.int .i64 t) ∧ Hid (Below w1.heap.size w1 wz))
        (first | exact HR.out _ (by assumption) | (refine HR.out _ (blH_drew ?_); assumption) | (refine HR.out _ (blH_undrew ?_); assumption) | (exact HR.out _ (Lib.hid (Below.refl _ _).drew)))
        (first
          | (go_at_call 8; ((with_reducible refine (R8.out _ ?_).mono ?_); (first | assumption | exact blH_drew hb3 | (refine blH_drew ?_; assumption)); rintro e w2 ⟨rfl, hb2⟩))
          | (go_at_call 5; ((with_reducible refine (R5c.out _ ?_).mono ?_); (first | assumption | exact blH_drew hb3 | (refine blH_drew ?_; assumption)); rintro e w2 ⟨rfl, hb2⟩))
          | (go_at_call 9; ((with_reducible refine (R91.out _ ?_).mono ?_); (first | assumption | exact blH_drew hb3 | (refine blH_drew ?_; assumption)); rintro e w2 ⟨rfl, hb2⟩))
          | (go_at_call 9; ((with_reducible refine (R90.out _ ?_).mono ?_); (first | assumption | exact blH_drew hb3 | (refine blH_drew ?_; assumption)); rintro e w2 ⟨rfl, hb2⟩)))
      all_goals
        simp only [Exit.then]
        apply_assumption
        go_wp2
        go_ret
        exact ⟨rfl, bt (HB.out.trans (hb2.out.mono HB.out.size))⟩
end Go.Proofs.Ytogmaiijlpkeeaa
