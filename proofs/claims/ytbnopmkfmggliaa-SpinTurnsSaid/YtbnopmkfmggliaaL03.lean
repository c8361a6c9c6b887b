/- Next: a way of a pass.; Next: a way of a pass.; A spin as a whole: loads and stores of it.; Next: the end of a turn in which somebody is chosen. -/
import Derived.Test.YtbnopmkfmggliaaL02
import Derived.Laws.CopyOwn
import Derived.Deep.RegionHeld3
set_option linter.unusedVariables false
set_option linter.unusedSimpArgs false
namespace Go.Proofs.Ytbnopmkfmggliaa
open Go.RowKit
open Fl

section
variable {g2 g3 g4 : Nat} {v0 v1 : Value} {wr : World} {t : Nat → Value} {J : Act → World → Prop} {Q0 : Exit → Act → World → Prop} {n k j x p q x2 p2 p3 q3 c : Nat}

set_option maxRecDepth 1000000 in
set_option maxHeartbeats 4000000 in
theorem way_lt (hk : k < n) (hn : n ≤ 8) (c8 : wr.cell? ⟨g2, 8, none⟩ = some (.int .i64 (n : Int))) (ck : wr.cell? ⟨g2, k, none⟩ = some (.complex .f64 p q)) (fk : wr.frozen? ⟨g2, k, none⟩ = false)
    (K20 : Hid (Calls Try.prog 20 #[.int .i64 (k : Int), .pointer (some ⟨g3, 0, none⟩)] wr fun e w' => e = .returned (.bool true) ∧ wr = w'))
    (KA : Hid (∀ w, Calls Try.prog 22 #[.complex .f64 x 0, .complex .f64 q 0] w fun e w' => e = .returned (.complex .f64 x2 0) ∧ w = w')) (KB : Hid (∀ w, Calls Try.prog 22 #[.complex .f64 p q, .complex .f64 q 0] w fun e w' => e = .returned (.complex .f64 p2 q) ∧ w = w')) (hj : j < 8) (ck2' : (wr.setCell ⟨g2, k, none⟩ (.complex .f64 p2 q)).cell? ⟨g2, k, none⟩ = some (.complex .f64 p2 q)) (cj2' : (wr.setCell ⟨g2, k, none⟩ (.complex .f64 p2 q)).cell? ⟨g2, j, none⟩ = some (.complex .f64 p3 q3)) (hor : FloatKind.f64.format.order p2 p3 = some .lt)
    (hJ : ∀ a' : Act, a' = fr g2 g3 g4 v0 v1 (.complex .f64 x2 0) (.int .i64 ((k : Int) + 1)) (.int .i64 (j : Int)) (fun i => a'.tmps.getD i undef) → ∀ m : Nat, J a' ((wr.setCell ⟨g2, k, none⟩ (.complex .f64 p2 q)).drewN m)) :
    Code.wp Try.prog labT (Exit.jump 0 J Q0) (fr g2 g3 g4 v0 v1 (.complex .f64 x 0) (.int .i64 (k : Int)) (.int .i64 (j : Int)) t) wr := by
  have H := Lib.hid hJ
  clear hJ
  conv => arg 2; whnf
  unfold fr
  have i1 : (k : Int) < (n : Int) := by omega
  have i2 : (k : Int) < 8 := by omega
  have i3 : (j : Int) < 8 := by omega
  have hst := st25 (p := p2) (q := q) ck fk
  go_upto_region 8 with (first
    | (go_at_call 20; ((with_reducible refine (K20.out).mono ?_); rintro e w1 ⟨rfl, rfl⟩))
    | (go_at_call 22; ((with_reducible refine (KA.out _).mono ?_); rintro e w1 ⟨rfl, rfl⟩)))
  go_upto_region 9 with (first
    | (go_at_call 22; ((with_reducible refine (KB.out _).mono ?_); rintro e w1 ⟨rfl, rfl⟩)))
  clear ck c8 fk hst
  have ck2 := ck2'
  have cj2 := cj2'
  clear ck2' cj2'

  generalize wr.setCell ⟨g2, k, none⟩ (.complex .f64 p2 q) = w2 at *
  go_quiet ((fail))
  go_wp2
  go_step3
  exact ⟨rfl, H.out _ rfl _⟩
end
end Go.Proofs.Ytbnopmkfmggliaa

namespace Go.Proofs.Ytbnopmkfmggliaa
open Go.RowKit
open Fl

section
variable {g2 g3 g4 : Nat} {v0 v1 : Value} {wr : World} {t : Nat → Value} {J : Act → World → Prop} {Q0 : Exit → Act → World → Prop} {n k j x p q x2 p2 p3 q3 c : Nat}

set_option maxRecDepth 1000000 in
set_option maxHeartbeats 4000000 in
theorem way_eq (hk : k < n) (hn : n ≤ 8) (c8 : wr.cell? ⟨g2, 8, none⟩ = some (.int .i64 (n : Int))) (ck : wr.cell? ⟨g2, k, none⟩ = some (.complex .f64 p q)) (fk : wr.frozen? ⟨g2, k, none⟩ = false)
    (K20 : Hid (Calls Try.prog 20 #[.int .i64 (k : Int), .pointer (some ⟨g3, 0, none⟩)] wr fun e w' => e = .returned (.bool true) ∧ wr = w'))
    (KA : Hid (∀ w, Calls Try.prog 22 #[.complex .f64 x 0, .complex .f64 q 0] w fun e w' => e = .returned (.complex .f64 x2 0) ∧ w = w')) (KB : Hid (∀ w, Calls Try.prog 22 #[.complex .f64 p q, .complex .f64 q 0] w fun e w' => e = .returned (.complex .f64 p2 q) ∧ w = w')) (hj : j < 8) (ck2' : (wr.setCell ⟨g2, k, none⟩ (.complex .f64 p2 q)).cell? ⟨g2, k, none⟩ = some (.complex .f64 p2 q)) (cj2' : (wr.setCell ⟨g2, k, none⟩ (.complex .f64 p2 q)).cell? ⟨g2, j, none⟩ = some (.complex .f64 p3 q3)) (hor : FloatKind.f64.format.order p2 p3 = some .eq)
    (hJ : ∀ a' : Act, a' = fr g2 g3 g4 v0 v1 (.complex .f64 x2 0) (.int .i64 ((k : Int) + 1)) (.int .i64 (j : Int)) (fun i => a'.tmps.getD i undef) → ∀ m : Nat, J a' ((wr.setCell ⟨g2, k, none⟩ (.complex .f64 p2 q)).drewN m)) :
    Code.wp Try.prog labT (Exit.jump 0 J Q0) (fr g2 g3 g4 v0 v1 (.complex .f64 x 0) (.int .i64 (k : Int)) (.int .i64 (j : Int)) t) wr := by
  have H := Lib.hid hJ
  clear hJ
  conv => arg 2; whnf
  unfold fr
  have i1 : (k : Int) < (n : Int) := by omega
  have i2 : (k : Int) < 8 := by omega
  have i3 : (j : Int) < 8 := by omega
  have hst := st25 (p := p2) (q := q) ck fk
  go_upto_region 8 with (first
    | (go_at_call 20; ((with_reducible refine (K20.out).mono ?_); rintro e w1 ⟨rfl, rfl⟩))
    | (go_at_call 22; ((with_reducible refine (KA.out _).mono ?_); rintro e w1 ⟨rfl, rfl⟩)))
  go_upto_region 9 with (first
    | (go_at_call 22; ((with_reducible refine (KB.out _).mono ?_); rintro e w1 ⟨rfl, rfl⟩)))
  clear ck c8 fk hst
  have ck2 := ck2'
  have cj2 := cj2'
  clear ck2' cj2'

  generalize wr.setCell ⟨g2, k, none⟩ (.complex .f64 p2 q) = w2 at *
  go_quiet ((fail))
  go_wp2
  go_step3
  exact ⟨rfl, H.out _ rfl _⟩
end
end Go.Proofs.Ytbnopmkfmggliaa

namespace Go.Proofs.Ytbnopmkfmggliaa
open Go.RowKit
open Fl

theorem spc_one (h u : Nat → Int) (n : Nat) : (spc h u n).all (·.oneCell') = true := by simp [spc, cplx, Value.oneCell']
theorem spc_size (h u : Nat → Int) (n : Nat) : (spc h u n).size = 9 := by simp [spc]
theorem info28 : (Try.prog.info? 28).map (·.size) = some 9 := by kernel_rfl
theorem NS.row {w : World} {g : Nat} {h u : Nat → Int} {n : Nat} (H : NS w g h u n) (h' u' : Nat → Int) (n' : Nat) : NS (w.setRow g (spc h' u' n')) g h' u' n' := setRow_heap w g _ _ 28 _ H
theorem NS.rowOther {w : World} {g g2 : Nat} {h u : Nat → Int} {n : Nat} (H : NS w g h u n) (hne : g ≠ g2) (cs : Array Value) : NS (w.setRow g2 cs) g h u n := by
  unfold NS; rw [setRow_other w g2 g _ hne]; exact H
theorem NS.load {w : World} {g : Nat} {h u : Nat → Int} {n : Nat} (H : NS w g h u n) : (loadVar 28 ⟨g, 0, none⟩).run Try.prog w = .ok (.agg (spc h u n)) w :=
  run_loadVar_row w g 28 28 (spc h u n) (0, 0) _ H Try.underlying28 rfl (by rw [info28, spc_size])
theorem wpList_load_ns {w : World} {ops : Array Oper} {rest : List Oper} {o : Oper} {a : Act} {Q : Exit → Act → World → Prop} (hgd : o.guard = none) (x : Operand) (ho : o.op = .load 28 x)
    {g : Nat} {h u : Nat → Int} {n : Nat} (H : NS w g h u n) (hx : a.eval x = .pointer (some ⟨g, 0, none⟩))
    (hk : wpList Try.prog ops Q rest (a.put o.dst (spV h u n)) w) : wpList Try.prog ops Q (o :: rest) a w :=
  wpList_load_row hgd 28 x ho g hx 28 (spc h u n) (0, 0) _ H Try.underlying28 rfl (by rw [info28, spc_size]) hk
theorem wpList_store_ns {w : World} {ops : Array Oper} {rest : List Oper} {o : Oper} {a : Act} {Q : Exit → Act → World → Prop} (hgd : o.guard = none) (x y : Operand) (ho : o.op = .store 28 x y)
    {g : Nat} {h u h' u' : Nat → Int} {n n' : Nat} (H : NS w g h u n) (hx : a.eval x = .pointer (some ⟨g, 0, none⟩)) (hy : a.eval y = .agg (spc h' u' n'))
    (hk : wpList Try.prog ops Q rest (a.put o.dst undef) (w.setRow g (spc h' u' n'))) : wpList Try.prog ops Q (o :: rest) a w :=
  wpList_store_row hgd 28 x y ho g (spc h' u' n') hx hy 28 (spc h u n) H (by rw [info28, spc_size]) (by rw [spc_size, spc_size]) (spc_one _ _ _) hk

section
variable {g2 g3 g4 : Nat} {v0 v1 : Value} {wr w0 : World} {t : Nat → Value} {J : Act → World → Prop} {n : Nat}
set_option maxRecDepth 1000000 in
set_option maxHeartbeats 4000000 in
theorem end_none {s8 : Value} {H u : Nat → Int} (hn : n ≤ 8) (HS : Hid (NS wr g2 H u n)) (HZ : Hid (NS wr g4 (fun _ => 0) (fun _ => 0) 0)) (HB : Hid (Below w0.heap.size w0 wr)) (HG : Hid (w0.heap.size ≤ g4)) :
    Code.wp Try.prog labT (Exit.jump 0 J (bodyPost Try.prog Try.f12 (fun e w' => e = .returned (.tuple #[spV H u n, .int .i64 0, .bool false]) ∧ Below w0.heap.size w0 w'))) (fr g2 g3 g4 v0 v1 s8 (.int .i64 (n : Int)) (.int .i64 (-1)) t) wr := by
  obtain ⟨_, c8⟩ := HS.out.cells
  have HR := Lib.hid (HZ.out.row H u n)
  have HBR := Lib.hid (below_setRow HB.out HG.out (spc H u n))
  conv => arg 2; whnf
  unfold fr
  go_upto_region 13 with fail
  clear c8
  go_wp2_with (first
    | (refine wpList_load_ns rfl _ rfl HS.out rfl ?_)
    | (refine wpList_store_ns rfl _ _ rfl HZ.out rfl rfl ?_))
  simp only [Exit.jump]
  generalize wr.setRow g4 (spc H u n) = w2 at *
  obtain ⟨⟨r0, r1, r2, r3, r4, r5, r6, r7⟩, r8⟩ := HR.out.cells
  refine bodyPost_ret (v := .tuple #[spV H u n, .int .i64 0, .bool false]) (by simp [results, Try.results12, go_sem, spV, spc, cplx, *]) rfl ⟨rfl, HBR.out⟩
end
end Go.Proofs.Ytbnopmkfmggliaa

namespace Go.Proofs.Ytbnopmkfmggliaa
open Go.RowKit
open Fl

section
variable {g2 g3 g4 : Nat} {v0 v1 : Value} {wr w0 : World} {t : Nat → Value} {J : Act → World → Prop} {n : Nat}
set_option maxRecDepth 1000000 in
set_option maxHeartbeats 4000000 in
theorem end_some {H u : Nat → Int} {c : Nat} {sm a2 : Int} (hn : n ≤ 8) (hc : c < 8) (HS : Hid (NS wr g2 H u n)) (HZ : Hid (NS wr g4 (fun _ => 0) (fun _ => 0) 0)) (HB : Hid (Below w0.heap.size w0 wr)) (HG : Hid (w0.heap.size ≤ g4 ∧ g2 ≠ g4)) (HG3 : Hid (w0.heap.size ≤ g2))
    (KT : Hid (∀ w, Calls Try.prog 23 #[.complex .f64 (fb sm) 0, .int .i64 2] w fun e w' => e = .returned (.complex .f64 (fb (-sm)) 0) ∧ w = w'))
    (KA : Hid (∀ w, Calls Try.prog 22 #[.complex .f64 (fb (H c)) (fb (u c)), .complex .f64 (fb (-sm)) 0] w fun e w' => e = .returned (.complex .f64 (fb a2) (fb (u c))) ∧ w = w')) :
    Code.wp Try.prog labT (Exit.jump 0 J (bodyPost Try.prog Try.f12 (fun e w' => e = .returned (.tuple #[spV (upd H c a2) u n, .int .i64 (c : Int), .bool true]) ∧ Below w0.heap.size w0 w'))) (fr g2 g3 g4 v0 v1 (.complex .f64 (fb sm) 0) (.int .i64 (n : Int)) (.int .i64 (c : Int)) t) wr := by
  obtain ⟨_, c8⟩ := HS.out.cells
  have ck' := Lib.hid (HS.out.at c hc)
  have fk' := Lib.hid (HS.out.free c)
  have HW : Hid (∀ wz, NS wz g2 H u n → NS (wz.setCell ⟨g2, c, none⟩ (.complex .f64 (fb a2) (fb (u c)))) g2 (upd H c a2) u n) := Lib.hid (fun wz h => by
    have := h.set c hc a2 (u c)
    rw [upd_self] at this
    exact this)
  generalize fb (H c) = p at *
  generalize fb (u c) = q at *
  generalize fb sm = x at *
  generalize fb (-sm) = x2 at *
  generalize hp2 : fb a2 = p2 at *
  clear hp2
  conv => arg 2; whnf
  unfold fr
  have i2 : (c : Int) < 8 := by omega
  go_upto_region 14 with fail
  clear c8
  have HS2 : Hid (NS wr.drew g2 H u n) := HS
  have HZ2 : Hid (NS wr.drew g4 (fun _ => 0) (fun _ => 0) 0) := HZ
  have HB2 := Lib.hid HB.out.drew
  have ck : wr.drew.cell? ⟨g2, c, none⟩ = some (.complex .f64 p q) := ck'.out
  have fk : wr.drew.frozen? ⟨g2, c, none⟩ = false := fk'.out
  have hst := st25 (p := p2) (q := q) ck fk
  clear HS HZ HB ck' fk'
  refine wp_region_held_drew (S := fun _ => True) (by kernel_rfl) trivial (fun hHeld => ?_)
  generalize wr.drew = wc0 at *
  refine wpAnyH_take (i := 0) (oi := ⟨some 59, _, _, _, _, _⟩) (v := ?_) rfl (by kernel_rfl) (by kernel_rfl) (by kernel_rfl) (fun _ _ _ h => h) (Or.inl ⟨by rfl, by (intro w hSw; (try dsimp only at hSw); go_simp; try with_reducible rfl)⟩) hHeld ?_
  try simp only [Act.put, List.setIfInBounds_toArray, List.set_cons_zero, List.set_cons_succ]
  refine wpAnyH_take (i := 1) (oi := ⟨some 60, _, _, _, _, _⟩) (v := ?_) rfl (by kernel_rfl) (by kernel_rfl) (by kernel_rfl) (fun _ _ _ h => h) (Or.inl ⟨by rfl, by (intro w hSw; (try dsimp only at hSw); go_simp; try with_reducible rfl)⟩) hHeld ?_
  try simp only [Act.put, List.setIfInBounds_toArray, List.set_cons_zero, List.set_cons_succ]
  refine wpAnyH_take (i := 2) (oi := ⟨some 61, _, _, _, _, _⟩) (v := ?_) rfl (by kernel_rfl) (by kernel_rfl) (by kernel_rfl) (fun _ _ _ h => h) (Or.inl ⟨by rfl, by (intro w hSw; (try dsimp only at hSw); go_simp; try with_reducible rfl)⟩) hHeld ?_
  try simp only [Act.put, List.setIfInBounds_toArray, List.set_cons_zero, List.set_cons_succ]
  refine wpAnyH_take (i := 3) (oi := ⟨some 62, _, _, _, _, _⟩) (v := ?_) rfl (by kernel_rfl) (by kernel_rfl) (by kernel_rfl) (fun _ _ _ h => h) (Or.inl ⟨by rfl, by (intro w hSw; (try dsimp only at hSw); go_simp; try with_reducible rfl)⟩) hHeld ?_
  try simp only [Act.put, List.setIfInBounds_toArray, List.set_cons_zero, List.set_cons_succ]
  refine wpAnyH_take (i := 5) (oi := ⟨some 64, _, _, _, _, _⟩) (v := ?_) rfl (by kernel_rfl) (by kernel_rfl) (by kernel_rfl) (fun _ _ _ h => h) (Or.inl ⟨by rfl, by (intro w hSw; (try dsimp only at hSw); go_simp; try with_reducible rfl)⟩) hHeld ?_
  try simp only [Act.put, List.setIfInBounds_toArray, List.set_cons_zero, List.set_cons_succ]
  refine wpAnyH_take (i := 8) (oi := ⟨some 67, _, _, _, _, _⟩) (v := ?_) rfl (by kernel_rfl) (by kernel_rfl) (by kernel_rfl) (fun _ _ _ h => h) (Or.inl ⟨by rfl, by (intro w hSw; (try dsimp only at hSw); go_simp; try with_reducible rfl)⟩) hHeld ?_
  try simp only [Act.put, List.setIfInBounds_toArray, List.set_cons_zero, List.set_cons_succ]
  refine wpAnyH_ready (rs := [4, 6]) (by kernel_rfl) (by simp) ?_
  refine AllReadyH.cons (o := ⟨some 63, _, _, _, _, _⟩) rfl (fun K hK => ?_) ?_
  · go_simp
    refine hK.out _ _ trivial (fun hHeld2 => ?_)
    clear hK K hHeld
    have hHeld := hHeld2
    clear hHeld2
    try simp only [Act.put, List.setIfInBounds_toArray, List.set_cons_zero, List.set_cons_succ]
    refine wpAnyH_ready (rs := [6]) (by kernel_rfl) (by simp) ?_
    refine AllReadyH.cons (o := ⟨some 65, _, _, _, _, _⟩) rfl (fun K hK => ?_) ?_
    · go_simp
      refine (KT.out _).mono ?_
      rintro ze we ⟨rfl, rfl⟩
      try go_simp
      refine hK.out _ _ trivial (fun hHeld2 => ?_)
      clear hK K hHeld
      have hHeld := hHeld2
      clear hHeld2
      try simp only [Act.put, List.setIfInBounds_toArray, List.set_cons_zero, List.set_cons_succ]
      refine wpAnyH_ready (rs := [7]) (by kernel_rfl) (by simp) ?_
      refine AllReadyH.cons (o := ⟨some 66, _, _, _, _, _⟩) rfl (fun K hK => ?_) ?_
      · go_simp
        refine (KA.out _).mono ?_
        rintro ze we ⟨rfl, rfl⟩
        try go_simp
        refine hK.out _ _ trivial (fun hHeld2 => ?_)
        clear hK K hHeld
        have hHeld := hHeld2
        clear hHeld2
        try simp only [Act.put, List.setIfInBounds_toArray, List.set_cons_zero, List.set_cons_succ]
        refine wpAnyH_take (i := 9) (oi := ⟨some 68, _, _, _, _, _⟩) (v := ?_) rfl (by kernel_rfl) (by kernel_rfl) (by kernel_rfl) (fun _ _ _ h => h) (Or.inl ⟨by rfl, by (intro w hSw; (try dsimp only at hSw); go_simp; try with_reducible rfl)⟩) hHeld ?_
        try simp only [Act.put, List.setIfInBounds_toArray, List.set_cons_zero, List.set_cons_succ]
        refine wpAnyH_ready (rs := [10]) (by kernel_rfl) (by simp) ?_
        refine AllReadyH.cons (o := ⟨none, _, _, _, _, _⟩) rfl (fun K hK => ?_) ?_
        · go_simp
          refine hK.out _ _ trivial (fun hHeld2 => ?_)
          clear hK K hHeld
          have hHeld := hHeld2
          clear hHeld2
          try simp only [Act.put, List.setIfInBounds_toArray, List.set_cons_zero, List.set_cons_succ]
          refine wpAnyH_done (by kernel_rfl) ?_ _
          simp only [Exit.then]
          apply_assumption
          have HR1 := Lib.hid (HW.out _ HS2.out)
          have HZ1 := Lib.hid (HZ2.out.other HG.out.2.symm c (.complex .f64 p2 q))
          have HB1 := Lib.hid (HB2.out.setCell (p := ⟨g2, c, none⟩) HG3.out (.complex .f64 p2 q))
          clear HS2 HZ2 HB2 HW ck fk hst
          generalize wc0.setCell ⟨g2, c, none⟩ (.complex .f64 p2 q) = w2 at *
          have HR := Lib.hid (HZ1.out.row (upd H c a2) u n)
          have HBR := Lib.hid (below_setRow HB1.out HG.out.1 (spc (upd H c a2) u n))
          go_wp2_with (first
            | (refine wpList_load_ns rfl _ rfl HR1.out rfl ?_)
            | (refine wpList_store_ns rfl _ _ rfl HZ1.out rfl rfl ?_))
          simp only [Exit.jump]
          generalize w2.setRow g4 (spc (upd H c a2) u n) = w3 at *
          obtain ⟨⟨r0, r1, r2, r3, r4, r5, r6, r7⟩, r8⟩ := HR.out.cells
          refine bodyPost_ret (v := .tuple #[spV (upd H c a2) u n, .int .i64 (c : Int), .bool true]) (by simp [results, Try.results12, go_sem, spV, spc, cplx, *]) rfl ⟨rfl, HBR.out⟩
        · exact AllReadyH.nil
      · exact AllReadyH.nil
    · exact AllReadyH.nil
  · refine AllReadyH.cons (o := ⟨some 65, _, _, _, _, _⟩) rfl (fun K hK => ?_) ?_
    · go_simp
      refine (KT.out _).mono ?_
      rintro ze we ⟨rfl, rfl⟩
      try go_simp
      refine hK.out _ _ trivial (fun hHeld2 => ?_)
      clear hK K hHeld
      have hHeld := hHeld2
      clear hHeld2
      try simp only [Act.put, List.setIfInBounds_toArray, List.set_cons_zero, List.set_cons_succ]
      refine wpAnyH_ready (rs := [4]) (by kernel_rfl) (by simp) ?_
      refine AllReadyH.cons (o := ⟨some 63, _, _, _, _, _⟩) rfl (fun K hK => ?_) ?_
      · go_simp
        refine hK.out _ _ trivial (fun hHeld2 => ?_)
        clear hK K hHeld
        have hHeld := hHeld2
        clear hHeld2
        try simp only [Act.put, List.setIfInBounds_toArray, List.set_cons_zero, List.set_cons_succ]
        refine wpAnyH_ready (rs := [7]) (by kernel_rfl) (by simp) ?_
        refine AllReadyH.cons (o := ⟨some 66, _, _, _, _, _⟩) rfl (fun K hK => ?_) ?_
        · go_simp
          refine (KA.out _).mono ?_
          rintro ze we ⟨rfl, rfl⟩
          try go_simp
          refine hK.out _ _ trivial (fun hHeld2 => ?_)
          clear hK K hHeld
          have hHeld := hHeld2
          clear hHeld2
          try simp only [Act.put, List.setIfInBounds_toArray, List.set_cons_zero, List.set_cons_succ]
          refine wpAnyH_take (i := 9) (oi := ⟨some 68, _, _, _, _, _⟩) (v := ?_) rfl (by kernel_rfl) (by kernel_rfl) (by kernel_rfl) (fun _ _ _ h => h) (Or.inl ⟨by rfl, by (intro w hSw; (try dsimp only at hSw); go_simp; try with_reducible rfl)⟩) hHeld ?_
          try simp only [Act.put, List.setIfInBounds_toArray, List.set_cons_zero, List.set_cons_succ]
          refine wpAnyH_ready (rs := [10]) (by kernel_rfl) (by simp) ?_
          refine AllReadyH.cons (o := ⟨none, _, _, _, _, _⟩) rfl (fun K hK => ?_) ?_
          · go_simp
            refine hK.out _ _ trivial (fun hHeld2 => ?_)
            clear hK K hHeld
            have hHeld := hHeld2
            clear hHeld2
            try simp only [Act.put, List.setIfInBounds_toArray, List.set_cons_zero, List.set_cons_succ]
            refine wpAnyH_done (by kernel_rfl) ?_ _
            simp only [Exit.then]
            apply_assumption
            have HR1 := Lib.hid (HW.out _ HS2.out)
            have HZ1 := Lib.hid (HZ2.out.other HG.out.2.symm c (.complex .f64 p2 q))
            have HB1 := Lib.hid (HB2.out.setCell (p := ⟨g2, c, none⟩) HG3.out (.complex .f64 p2 q))
            clear HS2 HZ2 HB2 HW ck fk hst
            generalize wc0.setCell ⟨g2, c, none⟩ (.complex .f64 p2 q) = w2 at *
            have HR := Lib.hid (HZ1.out.row (upd H c a2) u n)
            have HBR := Lib.hid (below_setRow HB1.out HG.out.1 (spc (upd H c a2) u n))
            go_wp2_with (first
              | (refine wpList_load_ns rfl _ rfl HR1.out rfl ?_)
              | (refine wpList_store_ns rfl _ _ rfl HZ1.out rfl rfl ?_))
            simp only [Exit.jump]
            generalize w2.setRow g4 (spc (upd H c a2) u n) = w3 at *
            obtain ⟨⟨r0, r1, r2, r3, r4, r5, r6, r7⟩, r8⟩ := HR.out.cells
            refine bodyPost_ret (v := .tuple #[spV (upd H c a2) u n, .int .i64 (c : Int), .bool true]) (by simp [results, Try.results12, go_sem, spV, spc, cplx, *]) rfl ⟨rfl, HBR.out⟩
          · exact AllReadyH.nil
        · exact AllReadyH.nil
      · exact AllReadyH.nil
    · exact AllReadyH.nil
end
end Go.Proofs.Ytbnopmkfmggliaa
