/- Walk of New.; Same, Len, Total, Pairs of a spin.; Pairs of a spin (slices.Clone of complex numbers).; Layer 22's awake. -/
import Derived.Test.YtbnopmkfmggliaaL04
import Derived.Laws.StructEq
import Derived.ChangeKeysEq
import Derived.ArgAppend
import Derived.WalkSpells
set_option linter.unusedVariables false
set_option linter.unusedSimpArgs false
namespace Go.Proofs.Ytbnopmkfmggliaa
open Go.RowKit
open Fl

abbrev Zf : Nat → Int := fun _ => 0
/-- The weights of the first k. -/
def pw (l : List Int) (k : Nat) : Nat → Int := fun i => if i < k then l.getD i 0 else 0
def wts (l : List Int) : Nat → Int := fun i => l.getD i 0
theorem pw_zero (l : List Int) : pw l 0 = Zf := by funext i; unfold pw; rw [if_neg (by omega)]
theorem pw_step (l : List Int) (k : Nat) (hk : k < l.length) : upd (pw l k) k l[k] = pw l (k + 1) := by
  funext i
  unfold upd pw
  by_cases e : i = k
  · subst e; rw [if_pos rfl, if_pos (by omega), List.getD_eq_getElem?_getD, List.getElem?_eq_getElem hk]; rfl
  · rw [if_neg e]
    by_cases h : i < k
    · rw [if_pos h, if_pos (by omega)]
    · rw [if_neg h, if_neg (by omega)]
theorem pw_all (l : List Int) : pw l l.length = wts l := by
  funext i
  unfold pw wts
  by_cases h : i < l.length
  · rw [if_pos h]
  · rw [if_neg h, List.getD_eq_getElem?_getD, List.getElem?_eq_none (by omega)]; rfl
theorem upd_zero (k : Nat) : upd Zf k 0 = Zf := by funext i; unfold upd; split <;> rfl
/-- What New answers. -/
def inW (l : List Int) : Prop := ∀ x ∈ l, 1 ≤ x ∧ x ≤ 100
instance (l : List Int) : Decidable (inW l) := by unfold inW; infer_instance
def nwE (l : List Int) : Int := if 8 < l.length then 6 else if inW l then 0 else 7
def nwS (l : List Int) : Value := if nwE l = 0 then spV Zf (wts l) l.length else spV Zf Zf 0
structure NwE (w0 wr : World) (g2 g4 : Nat) (u : Nat → Int) (n : Nat) : Prop where
  R : NS wr g2 Zf Zf 0
  S : NS wr g4 Zf u n
  B : Below w0.heap.size w0 wr
theorem run_of3 (a : Int) (w : World) : (convert 3 60 (.int .i64 a)).run Try.prog w = .ok (.float .f64 (fb a)) w :=
  run_convert_int_float w 3 60 .i64 .f64 a (by kernel_rfl) (by kernel_rfl)
theorem nwz {w0 wr : World} {g : Nat} (H : NS wr g Zf Zf 0) : wr.heap[g]? = some (.cells #[.complex .f64 0 0, .complex .f64 0 0, .complex .f64 0 0, .complex .f64 0 0, .complex .f64 0 0, .complex .f64 0 0, .complex .f64 0 0, .complex .f64 0 0, .int .i64 0] 28 (0, 0)) := H

set_option maxRecDepth 1000000 in
set_option maxHeartbeats 4000000 in
theorem new_any (l : List Int) (hl : ∀ x ∈ l, -9223372036854775808 ≤ x ∧ x ≤ 9223372036854775807) (at0 : Option Addr) (cap b off : Nat) (w : World) (hat : 0 < l.length → at0 = some ⟨b, off, none⟩ ∧ b < w.heap.size) (hc : DIn w b off l) :
    Calls Try.prog 7 #[.slice at0 l.length cap] w fun e w' => e = .returned (.tuple #[nwS l, .int .i64 (nwE l)]) ∧ Below w.heap.size w w' := by
  have HC := Lib.hid hc
  have HAT := Lib.hid hat
  have HL := Lib.hid hl
  clear hc hat hl
  have HZ0 : Hid (NS (w.alloc (.cells #[.complex .f64 0 0, .complex .f64 0 0, .complex .f64 0 0, .complex .f64 0 0, .complex .f64 0 0, .complex .f64 0 0, .complex .f64 0 0, .complex .f64 0 0, .int .i64 0] 28)) w.heap.size Zf Zf 0) := Lib.hid (NS.new w Zf Zf 0)
  have HB0 := Lib.hid (alloc_below w (.cells #[.complex .f64 0 0, .complex .f64 0 0, .complex .f64 0 0, .complex .f64 0 0, .complex .f64 0 0, .complex .f64 0 0, .complex .f64 0 0, .complex .f64 0 0, .int .i64 0] 28))
  by_cases hbig : 8 < l.length
  · have e1 : nwE l = 6 := by unfold nwE; rw [if_pos hbig]
    have e2 : nwS l = spV Zf Zf 0 := by unfold nwS; rw [e1, if_neg (by omega)]
    rw [e1, e2]
    clear e1 e2 HC HAT HL
    go_enter Try.func7, Try.ntmps7
    go_upto_region 2 with fail
    have HR := Lib.hid (HZ0.out.row Zf Zf 0)
    have HBR := Lib.hid (below_setRow HB0.out (Nat.le_refl _) (spc Zf Zf 0))
    generalize w.alloc (.cells #[.complex .f64 0 0, .complex .f64 0 0, .complex .f64 0 0, .complex .f64 0 0, .complex .f64 0 0, .complex .f64 0 0, .complex .f64 0 0, .complex .f64 0 0, .int .i64 0] 28) = w1 at *
    go_wp2_with (first
      | (refine wpList_store_ns (h' := Zf) (u' := Zf) (n' := 0) rfl _ _ rfl HZ0.out rfl rfl ?_))
    generalize w1.setRow w.heap.size (spc Zf Zf 0) = w3 at *
    obtain ⟨⟨r0, r1, r2, r3, r4, r5, r6, r7⟩, r8⟩ := HR.out.cells
    refine bodyPost_ret (v := .tuple #[spV Zf Zf 0, .int .i64 6]) (by simp [results, Try.results7, go_sem, spV, spc, cplx, *]) rfl ⟨rfl, HBR.out⟩
  · obtain ⟨n, hn⟩ : ∃ n, n = l.length := ⟨_, rfl⟩
    have HNL := Lib.hid hn
    have hn8 : n ≤ 8 := by omega
    rw [← hn]
    obtain ⟨E, hE⟩ : ∃ E, nwE l = E := ⟨_, rfl⟩
    obtain ⟨S, hS⟩ : ∃ S, nwS l = S := ⟨_, rfl⟩
    rw [hE, hS]
    have HES := Lib.hid (And.intro hE hS)
    clear hbig hn hE hS
    go_enter Try.func7, Try.ntmps7
    go_upto_region 3 with fail
    generalize w.alloc (.cells #[.complex .f64 0 0, .complex .f64 0 0, .complex .f64 0 0, .complex .f64 0 0, .complex .f64 0 0, .complex .f64 0 0, .complex .f64 0 0, .complex .f64 0 0, .int .i64 0] 28) = w1 at *
    have HS0 : Hid (NS (w1.alloc (.cells #[.complex .f64 0 0, .complex .f64 0 0, .complex .f64 0 0, .complex .f64 0 0, .complex .f64 0 0, .complex .f64 0 0, .complex .f64 0 0, .complex .f64 0 0, .int .i64 0] 28)) w1.heap.size Zf Zf 0) := Lib.hid (NS.new w1 Zf Zf 0)
    go_upto_region 4 with (first
      | (refine wpList_store_ns (h' := Zf) (u' := Zf) (n' := n) rfl _ _ rfl HS0.out rfl rfl ?_))
    have HE : Hid (NwE w ((w1.alloc (.cells #[.complex .f64 0 0, .complex .f64 0 0, .complex .f64 0 0, .complex .f64 0 0, .complex .f64 0 0, .complex .f64 0 0, .complex .f64 0 0, .complex .f64 0 0, .int .i64 0] 28)).setRow w1.heap.size (spc Zf Zf n)) w.heap.size w1.heap.size (pw l 0) n) := Lib.hid (by
      rw [pw_zero]
      exact ⟨(HZ0.out.later (alloc_below w1 _)).rowOther (by have := HZ0.out.lt; omega) _, HS0.out.row Zf Zf n, below_setRow (HB0.out.trans ((alloc_below w1 _).mono HB0.out.size)) HB0.out.size _⟩)
    have HG : Hid (w.heap.size ≤ w1.heap.size ∧ w.heap.size ≠ w1.heap.size) := Lib.hid ⟨HB0.out.size, by have := HZ0.out.lt; omega⟩
    clear HS0 HZ0 HB0
    generalize (w1.alloc (.cells #[.complex .f64 0 0, .complex .f64 0 0, .complex .f64 0 0, .complex .f64 0 0, .complex .f64 0 0, .complex .f64 0 0, .complex .f64 0 0, .complex .f64 0 0, .int .i64 0] 28)).setRow w1.heap.size (spc Zf Zf n) = w2 at *
    generalize w1.heap.size = g4 at *
    go_wp2
    go_loopw [5, 6, 16] (fun _ _ i wr => ∃ k : Nat, k ≤ n ∧ i = .int .i64 (k : Int) ∧ Hid (NwE w wr w.heap.size g4 (pw l k) n) ∧ Hid (∀ j (h : j < l.length), j < k → 1 ≤ l[j] ∧ l[j] ≤ 100)) (fun _ _ i _ => n - (intOf i).toNat)
    case atStart => exact ⟨0, by omega, rfl, HE, Lib.hid (fun j _ h => absurd h (by omega))⟩
    case round =>
      obtain ⟨k, hk, rfl, HE2, HN⟩ := hrel
      clear HE
      by_cases hlt : k < n
      · have hlt' : k < l.length := by rw [← HNL.out]; exact hlt
        have hcell := HC.out k hlt'
        have hx := HL.out l[k] (List.getElem_mem hlt')
        obtain ⟨rfl, hb⟩ := HAT.out (by omega)
        rw [← HE2.out.B.cell (p := ⟨b, off + k, none⟩) hb] at hcell
        obtain ⟨x, hxe⟩ : ∃ x, l[k] = x := ⟨_, rfl⟩
        have HX := Lib.hid hxe
        rw [hxe] at hcell hx
        clear hxe hb
        by_cases h1 : x < 1
        · have q1 : decide (x < 1) = true := by rw [decide_eq_true_eq]; exact h1
          have e1 : nwE l = 7 := by
            unfold nwE
            rw [if_neg (by have := HNL.out; omega), if_neg]
            intro h
            have := h l[k] (List.getElem_mem hlt')
            rw [HX.out] at this; omega
          have e2 : nwS l = spV Zf Zf 0 := by unfold nwS; rw [e1, if_neg (by omega)]
          have HQ : Hid (E = 7 ∧ S = spV Zf Zf 0) := Lib.hid ⟨HES.out.1.symm.trans e1, HES.out.2.symm.trans e2⟩
          have HR := Lib.hid (HE2.out.R.row Zf Zf 0)
          have HBR := Lib.hid (below_setRow HE2.out.B (Nat.le_refl _) (spc Zf Zf 0))
          clear e1 e2 HES HN HC HL HNL HX
          go_wp2_with (first
            | (refine wpList_store_ns (h' := Zf) (u' := Zf) (n' := 0) rfl _ _ rfl HE2.out.R rfl rfl ?_))
          generalize wr.setRow w.heap.size (spc Zf Zf 0) = w3 at *
          obtain ⟨⟨r0, r1, r2, r3, r4, r5, r6, r7⟩, r8⟩ := HR.out.cells
          refine bodyPost_ret (v := .tuple #[spV Zf Zf 0, .int .i64 7]) (by simp [results, Try.results7, go_sem, spV, spc, cplx, *]) rfl ⟨?_, HBR.out⟩
          rw [HQ.out.1, HQ.out.2]
        · by_cases h2 : 100 < x
          · have q1 : decide (x < 1) = false := by rw [decide_eq_false_iff_not]; exact h1
            have q2 : decide (100 < x) = true := by rw [decide_eq_true_eq]; exact h2
            have e1 : nwE l = 7 := by
              unfold nwE
              rw [if_neg (by have := HNL.out; omega), if_neg]
              intro h
              have := h l[k] (List.getElem_mem hlt')
              rw [HX.out] at this; omega
            have e2 : nwS l = spV Zf Zf 0 := by unfold nwS; rw [e1, if_neg (by omega)]
            have HQ : Hid (E = 7 ∧ S = spV Zf Zf 0) := Lib.hid ⟨HES.out.1.symm.trans e1, HES.out.2.symm.trans e2⟩
            have HR := Lib.hid (HE2.out.R.row Zf Zf 0)
            have HBR := Lib.hid (below_setRow HE2.out.B (Nat.le_refl _) (spc Zf Zf 0))
            clear e1 e2 HES HN HC HL HNL HX
            go_wp2_with (first
              | (refine wpList_store_ns (h' := Zf) (u' := Zf) (n' := 0) rfl _ _ rfl HE2.out.R rfl rfl ?_))
            generalize wr.setRow w.heap.size (spc Zf Zf 0) = w3 at *
            obtain ⟨⟨r0, r1, r2, r3, r4, r5, r6, r7⟩, r8⟩ := HR.out.cells
            refine bodyPost_ret (v := .tuple #[spV Zf Zf 0, .int .i64 7]) (by simp [results, Try.results7, go_sem, spV, spc, cplx, *]) rfl ⟨?_, HBR.out⟩
            rw [HQ.out.1, HQ.out.2]
          · have q1 : decide (x < 1) = false := by rw [decide_eq_false_iff_not]; exact h1
            have q2 : decide (100 < x) = false := by rw [decide_eq_false_iff_not]; exact h2
            have hcv := fun w => run_of3 x w
            have hst := st25 (p := 0) (q := fb x) (HE2.out.S.at k (by omega)) (HE2.out.S.free k)
            have i2 : (k : Int) < 8 := by omega
            have i3 : (k : Int) < (n : Int) := by omega
            have HE3 : Hid (NwE w (wr.setCell ⟨g4, k, none⟩ (.complex .f64 0 (fb x))) w.heap.size g4 (pw l (k + 1)) n) := Lib.hid (by
              have hs := HE2.out.S.set k (by omega) 0 x
              rw [upd_zero, ← HX.out, pw_step l k hlt', HX.out] at hs
              exact ⟨HE2.out.R.other HG.out.2 _ _, hs, HE2.out.B.setCell HG.out.1 _⟩)
            have HN2 : Hid (∀ j (h : j < l.length), j < k + 1 → 1 ≤ l[j] ∧ l[j] ≤ 100) := Lib.hid (fun j hj hjk => by
              by_cases e : j = k
              · subst e; rw [HX.out]; omega
              · exact HN.out j hj (by omega))
            clear HN HE2 HX
            generalize fb x = q at *
            go_wp2
            generalize wr.setCell ⟨g4, k, none⟩ (.complex .f64 0 q) = w5 at *
            go_roundw
            case rel => exact ⟨k + 1, by omega, by go_num, HE3, HN2⟩
            case measure => simp [intOf]; omega
      · obtain rfl : k = n := by omega
        have e1 : nwE l = 0 := by
          unfold nwE
          rw [if_neg (by have := HNL.out; omega), if_pos]
          intro x hx
          obtain ⟨j, hj, he⟩ := List.getElem_of_mem hx
          rw [← he]
          exact HN.out j hj (by have := HNL.out; omega)
        have e2 : nwS l = spV Zf (pw l k) k := by unfold nwS; rw [e1, if_pos rfl, HNL.out, pw_all]
        have HQ : Hid (E = 0 ∧ S = spV Zf (pw l k) k) := Lib.hid ⟨HES.out.1.symm.trans e1, HES.out.2.symm.trans e2⟩
        have HR := Lib.hid (HE2.out.R.row Zf (pw l k) k)
        have HBR := Lib.hid (below_setRow HE2.out.B (Nat.le_refl _) (spc Zf (pw l k) k))
        clear e1 e2 HES HN HC HL HNL
        go_wp2_with (first
          | (refine wpList_load_ns rfl _ rfl HE2.out.S rfl ?_)
          | (refine wpList_store_ns rfl _ _ rfl HE2.out.R rfl rfl ?_))
        generalize wr.setRow w.heap.size (spc Zf (pw l k) k) = w3 at *
        obtain ⟨⟨r0, r1, r2, r3, r4, r5, r6, r7⟩, r8⟩ := HR.out.cells
        refine bodyPost_ret (v := .tuple #[spV Zf (pw l k) k, .int .i64 0]) (by simp [results, Try.results7, go_sem, spV, spc, cplx, *]) rfl ⟨?_, HBR.out⟩
        rw [HQ.out.1, HQ.out.2]
end Go.Proofs.Ytbnopmkfmggliaa

namespace Go.Proofs.Ytbnopmkfmggliaa
open Go.RowKit
open Fl

theorem info25x : (Try.prog.info? 25).map (fun i => (i.zero, i.size, i.bytes)) = some (some (.complex .f64 0 0), 1, 16) := by kernel_rfl
theorem info25' : ∃ i, Try.prog.info? 25 = some i := by
  obtain ⟨i, hi, _⟩ := info_parts info25x
  exact ⟨i, hi⟩
theorem cells25 : Try.prog.cellsOf 25 = 1 := by kernel_rfl
theorem run_to3 (a : Int) (h : In a) (w : World) : (convert 60 3 (.float .f64 (fb a))).run Try.prog w = .ok (.int .i64 a) w :=
  run_convert_float_int w 60 3 .f64 .i64 (fb a) a (by kernel_rfl) (by kernel_rfl) (toInt_fb a h)
theorem eqC {p q : Nat} (d : Nat) (w : World) (hp : FloatKind.f64.format.order p p = some .eq) (hq : FloatKind.f64.format.order q q = some .eq) :
    (Op.equalIn (d + 1) 25 (.complex .f64 p q) (.complex .f64 p q)).run Try.prog w = .ok true w := by
  simp [Op.equalIn, run_underlying Try.underlying25, Op.floatEq, hp, hq]
set_option maxRecDepth 100000 in
theorem eqA {p0 q0 p1 q1 p2 q2 p3 q3 p4 q4 p5 q5 p6 q6 p7 q7 : Nat} (hp0 : FloatKind.f64.format.order p0 p0 = some .eq) (hq0 : FloatKind.f64.format.order q0 q0 = some .eq) (hp1 : FloatKind.f64.format.order p1 p1 = some .eq) (hq1 : FloatKind.f64.format.order q1 q1 = some .eq) (hp2 : FloatKind.f64.format.order p2 p2 = some .eq) (hq2 : FloatKind.f64.format.order q2 q2 = some .eq) (hp3 : FloatKind.f64.format.order p3 p3 = some .eq) (hq3 : FloatKind.f64.format.order q3 q3 = some .eq) (hp4 : FloatKind.f64.format.order p4 p4 = some .eq) (hq4 : FloatKind.f64.format.order q4 q4 = some .eq) (hp5 : FloatKind.f64.format.order p5 p5 = some .eq) (hq5 : FloatKind.f64.format.order q5 q5 = some .eq) (hp6 : FloatKind.f64.format.order p6 p6 = some .eq) (hq6 : FloatKind.f64.format.order q6 q6 = some .eq) (hp7 : FloatKind.f64.format.order p7 p7 = some .eq) (hq7 : FloatKind.f64.format.order q7 q7 = some .eq) (w : World) : (Op.equalIn 9999 26 (.agg #[.complex .f64 p0 q0, .complex .f64 p1 q1, .complex .f64 p2 q2, .complex .f64 p3 q3, .complex .f64 p4 q4, .complex .f64 p5 q5, .complex .f64 p6 q6, .complex .f64 p7 q7]) (.agg #[.complex .f64 p0 q0, .complex .f64 p1 q1, .complex .f64 p2 q2, .complex .f64 p3 q3, .complex .f64 p4 q4, .complex .f64 p5 q5, .complex .f64 p6 q6, .complex .f64 p7 q7])).run Try.prog w = .ok true w := by
  obtain ⟨i, hi⟩ := info25'
  show (Op.equalIn (9998 + 1) 26 _ _).run Try.prog w = _
  rw [run_equalIn_array w 9998 _ _ Try.underlying26 hi, cells25]
  simp only [show List.range 8 = [0, 1, 2, 3, 4, 5, 6, 7] from rfl, Op.eqItems]
  have E := fun (p q : Nat) (hp : FloatKind.f64.format.order p p = some .eq) (hq : FloatKind.f64.format.order q q = some .eq) => eqC 9997 w hp hq
  simp [go_sem, E p0 q0 hp0 hq0, E p1 q1 hp1 hq1, E p2 q2 hp2 hq2, E p3 q3 hp3 hq3, E p4 q4 hp4 hq4, E p5 q5 hp5 hq5, E p6 q6 hp6 hq6, E p7 q7 hp7 hq7]
set_option maxRecDepth 100000 in
set_option maxHeartbeats 4000000 in
theorem same_any (h u : Nat → Int) (n : Nat) (hh : ∀ i, -1000000000 ≤ h i ∧ h i ≤ 1000000000) (hu : ∀ i, 0 ≤ u i ∧ u i ≤ 100) (w : World) :
    Calls Try.prog 11 #[spV h u n, spV h u n] w fun e w' => e = .returned (.bool true) ∧ Below w.heap.size w w' := by
  have oh := fun i => (order_lits (h i) (h i) (small _ (by have := hh i; omega)).small3 (small _ (by have := hh i; omega)).small3).trans (congrArg some (cmp_eq _))
  have ou := fun i => (order_lits (u i) (u i) (small _ (by have := hu i; omega)).small3 (small _ (by have := hu i; omega)).small3).trans (congrArg some (cmp_eq _))
  have hE := fun w => eqA (w := w) (oh 0) (ou 0) (oh 1) (ou 1) (oh 2) (ou 2) (oh 3) (ou 3) (oh 4) (ou 4) (oh 5) (ou 5) (oh 6) (ou 6) (oh 7) (ou 7)
  have HB := Lib.hid ((alloc_below w (.cells (spc h u n) 28)).trans ((alloc_below (w.alloc (.cells (spc h u n) 28)) (.cells (spc h u n) 28)).mono (alloc_below w _).size))
  clear oh ou
  unfold spV spc cplx at *
  generalize fb (h 0) = p0 at *
  generalize fb (u 0) = q0 at *
  generalize fb (h 1) = p1 at *
  generalize fb (u 1) = q1 at *
  generalize fb (h 2) = p2 at *
  generalize fb (u 2) = q2 at *
  generalize fb (h 3) = p3 at *
  generalize fb (u 3) = q3 at *
  generalize fb (h 4) = p4 at *
  generalize fb (u 4) = q4 at *
  generalize fb (h 5) = p5 at *
  generalize fb (u 5) = q5 at *
  generalize fb (h 6) = p6 at *
  generalize fb (u 6) = q6 at *
  generalize fb (h 7) = p7 at *
  generalize fb (u 7) = q7 at *
  go_enter Try.func11, Try.ntmps11
  go_wp2
  go_ret
  exact ⟨rfl, HB.out⟩
theorem len_any (h u : Nat → Int) (n : Nat) (w : World) : Calls Try.prog 18 #[spV h u n] w fun e w' => e = .returned (.int .i64 (n : Int)) ∧ Below w.heap.size w w' := by
  have HB := Lib.hid (alloc_below w (.cells (spc h u n) 28))
  unfold spV spc cplx at *
  generalize fb (h 0) = p0 at *
  generalize fb (u 0) = q0 at *
  generalize fb (h 1) = p1 at *
  generalize fb (u 1) = q1 at *
  generalize fb (h 2) = p2 at *
  generalize fb (u 2) = q2 at *
  generalize fb (h 3) = p3 at *
  generalize fb (u 3) = q3 at *
  generalize fb (h 4) = p4 at *
  generalize fb (u 4) = q4 at *
  generalize fb (h 5) = p5 at *
  generalize fb (u 5) = q5 at *
  generalize fb (h 6) = p6 at *
  generalize fb (u 6) = q6 at *
  generalize fb (h 7) = p7 at *
  generalize fb (u 7) = q7 at *
  go_enter Try.func18, Try.ntmps18
  go_wp2
  go_ret
  exact ⟨rfl, HB.out⟩
/-- The hands and weights in a row. -/
def prs (h u : Nat → Int) (n : Nat) : List (Int × Int) := (List.range n).map fun i => (h i, u i)
theorem prs_len (h u : Nat → Int) (n : Nat) : (prs h u n).length = n := by simp [prs]
theorem prs_get (h u : Nat → Int) (n k : Nat) (hk : k < (prs h u n).length) : (prs h u n)[k] = (h k, u k) := by simp [prs]
/-- A sum of the first k. -/
def tot (f : Nat → Int) : Nat → Int
  | 0 => 0
  | k + 1 => tot f k + f k
theorem tS_all (u : Nat → Int) : ∀ k : Nat, tS (fun _ => true) u k = tot u k
  | 0 => rfl
  | k + 1 => by rw [tS, if_pos rfl, tS_all u k]; rfl
theorem accA_app : ∀ (l : List (Int × Int)) (p : Int × Int) (s : Int), accA (l ++ [p]) s = holdI (accA l s + p.1)
  | [], _, _ => rfl
  | q :: l, p, s => accA_app l p _
theorem accB_app : ∀ (l : List (Int × Int)) (p : Int × Int) (s : Int), accB (l ++ [p]) s = holdI (accB l s + p.2)
  | [], _, _ => rfl
  | q :: l, p, s => accB_app l p _
theorem prs_step (h u : Nat → Int) (n : Nat) : prs h u (n + 1) = prs h u n ++ [(h n, u n)] := by simp [prs, List.range_succ]
theorem tot_bound (f : Nat → Int) (hf : ∀ i, -1000000000 ≤ f i ∧ f i ≤ 1000000000) : ∀ k : Nat, -1000000000 * (k : Int) ≤ tot f k ∧ tot f k ≤ 1000000000 * (k : Int)
  | 0 => by simp [tot]
  | k + 1 => by have h1 := tot_bound f hf k; have h2 := hf k; unfold tot; omega
theorem acc_a (h u : Nat → Int) (hh : ∀ i, -1000000000 ≤ h i ∧ h i ≤ 1000000000) : ∀ n, n ≤ 8 → accA (prs h u n) 0 = tot h n
  | 0, _ => rfl
  | n + 1, hn => by
    have h1 := tot_bound h hh n
    have h2 := hh n
    rw [prs_step, accA_app, acc_a h u hh n (by omega)]
    exact holdI_id (by unfold In; simp only; omega)
theorem acc_b (h u : Nat → Int) (hu : ∀ i, 0 ≤ u i ∧ u i ≤ 100) : ∀ n, n ≤ 8 → accB (prs h u n) 0 = tot u n
  | 0, _ => rfl
  | n + 1, hn => by
    have h1 := tot_bound u (fun i => by have := hu i; omega) n
    have h2 := hu n
    rw [prs_step, accB_app, acc_b h u hu n (by omega)]
    exact holdI_id (by unfold In; simp only; omega)
set_option maxRecDepth 100000 in
set_option maxHeartbeats 4000000 in
theorem total_any (h u : Nat → Int) (n : Nat) (hn : n ≤ 8) (hh : ∀ i, -1000000000 ≤ h i ∧ h i ≤ 1000000000) (hu : ∀ i, 0 ≤ u i ∧ u i ≤ 100) (w : World) :
    Calls Try.prog 14 #[spV h u n] w fun e w' => e = .returned (.int .i64 (tot u n)) ∧ Below w.heap.size w w' := by
  rw [← acc_b h u hu n hn]
  have HB := Lib.hid (alloc_below w (.cells (spc h u n) 28))
  have K16 := Lib.hid (fun cap => psum_any (prs h u n) (by intro p hp; simp [prs] at hp; obtain ⟨i, _, rfl⟩ := hp; exact ⟨small _ (by have := hh i; omega), small _ (by have := hu i; omega)⟩) (by rw [prs_len]; omega) (some ⟨w.heap.size, 0, none⟩) n cap w.heap.size (prs_len h u n).symm (w.alloc (.cells (spc h u n) 28)) (fun _ => rfl) (fun k hk => by
    rw [prs_get]
    exact (NS.new w h u n).at k (by rw [prs_len] at hk; omega)))
  have hB : In (accB (prs h u n) 0) := by rw [acc_b h u hu n hn]; have := tot_bound u (fun i => by have := hu i; omega) n; unfold In; omega
  have h2 := run_to3 _ hB
  have hsl : ∀ W, (Instr.sliceAt 26 (.pointer (some ⟨w.heap.size, 0, none⟩)) none (some (.int .i64 (n : Int))) none).run Try.prog W = .ok (.slice (some ⟨w.heap.size, 0, none⟩) n 8) W := fun W => by
    rw [run_sliceAt_array_h W 26 ⟨w.heap.size, 0, none⟩ (by kernel_rfl) .i64 (n : Int) (by omega) (by rw [show Try.prog.arrayLen 26 = 8 by kernel_rfl]; omega)]
    rw [show Try.prog.arrayLen 26 = 8 by kernel_rfl, show Try.prog.elem 26 = 25 by kernel_rfl]
    go_simp
  unfold spV spc cplx at *
  generalize accB (prs h u n) 0 = B at *
  generalize accA (prs h u n) 0 = A at *
  generalize prs h u n = P at *
  generalize fb B = fB at *
  generalize fb A = fA at *
  generalize fb (h 0) = p0 at *
  generalize fb (u 0) = q0 at *
  generalize fb (h 1) = p1 at *
  generalize fb (u 1) = q1 at *
  generalize fb (h 2) = p2 at *
  generalize fb (u 2) = q2 at *
  generalize fb (h 3) = p3 at *
  generalize fb (u 3) = q3 at *
  generalize fb (h 4) = p4 at *
  generalize fb (u 4) = q4 at *
  generalize fb (h 5) = p5 at *
  generalize fb (u 5) = q5 at *
  generalize fb (h 6) = p6 at *
  generalize fb (u 6) = q6 at *
  generalize fb (h 7) = p7 at *
  generalize fb (u 7) = q7 at *
  go_enter Try.func14, Try.ntmps14
  go_wp2_with ((go_at_call 16; ((with_reducible refine (K16.out _).mono ?_); rintro z w1 ⟨rfl, rfl⟩)))
  go_ret
  exact ⟨rfl, HB.out⟩
end Go.Proofs.Ytbnopmkfmggliaa

namespace Go.Proofs.Ytbnopmkfmggliaa
open Go.RowKit
open Fl

theorem plain_add (b o j : Nat) : (⟨b, o, none⟩ : Addr).add j = ⟨b, o + j, none⟩ := by unfold Addr.add; split <;> simp_all
/-- A fresh row of a spin's pairs. -/
def PrR (w : World) (h u : Nat → Int) (n : Nat) (e : Ending) (w' : World) : Prop := ∃ (o : Option Addr) (cap g : Nat), e = .returned (.slice o n cap) ∧ (0 < n → o = some ⟨g, 0, none⟩ ∧ w.heap.size ≤ g ∧ g < w'.heap.size) ∧ (∀ i, i < n → w'.cell? ⟨g, i, none⟩ = some (.complex .f64 (fb (h i)) (fb (u i)))) ∧ Below w.heap.size w w'
def ccl (h u : Nat → Int) (n : Nat) : List Value := (List.range n).map fun i => .complex .f64 (fb (h i)) (fb (u i))
theorem ccl_len (h u : Nat → Int) (n : Nat) : (ccl h u n).length = n := by simp [ccl]
theorem ccl_get (h u : Nat → Int) (n j : Nat) (v : Value) (hj : (ccl h u n)[j]? = some v) : j < n ∧ v = .complex .f64 (fb (h j)) (fb (u j)) := by
  have hl := (List.getElem?_eq_some_iff.1 hj).1
  rw [ccl_len] at hl
  refine ⟨hl, ?_⟩
  simp [ccl, hl] at hj
  exact hj.symm
theorem Try.info25y : (Try.prog.info? 25).map (fun i => (i.zero, i.size, i.bytes)) = some (some (.complex .f64 0 0), 1, 16) := info25x
theorem run_eql_slice_nil' (t e : TypeId) (a : Addr) (l c : Nat) (h : Try.prog.underlying t = some (.slice e)) (w : World) : (binOp .eql t (.slice (some a) l c) (.slice none 0 0)).run Try.prog w = .ok (.bool false) w := by
  have := run_equal_slice_nil (P := Try.prog) (w := w) t e (some a) l c h
  simp [binOp, this]
set_option maxRecDepth 100000 in
set_option maxHeartbeats 4000000 in
theorem clone_any (h u : Nat → Int) (n : Nat) (hn : n ≤ 8) (g0 : Nat) (w : World) (hc : ∀ i, i < n → w.cell? ⟨g0, i, none⟩ = some (.complex .f64 (fb (h i)) (fb (u i)))) :
    Calls Try.prog 26 #[.slice (some ⟨g0, 0, none⟩) n 8] w (PrR w h u n) := by
  obtain ⟨i0, hi, hz0, hz1, hz2⟩ := info_parts info25x
  have hnil : ∀ w, (binOp .eql 56 (.slice (some ⟨g0, 0, none⟩) n 8) (.slice none 0 0)).run Try.prog w = .ok (.bool false) w := fun w => run_eql_slice_nil' 56 25 _ _ _ Try.underlying56 w
  have HC := Lib.hid hc
  clear hc
  have HB1 := Lib.hid (alloc_below w (.cells #[] 25))
  by_cases h0 : n = 0
  · subst h0
    go_enter Try.func26, Try.ntmps26
    go_wp2
    go_ret
    exact ⟨_, _, 0, rfl, fun h => absurd h (by omega), fun i hi => absurd hi (by omega), HB1.out⟩
  · have h0' : 0 < n := by omega
    go_enter Try.func26, Try.ntmps26
    go_wp2_with (first
      | (at_builtin; refine wpList_append_grows _ rfl (.tmp 5) (.tmp 6) 56 rfl 25 i0 (.complex .f64 0 0) 1 16 Try.underlying56 hi hz0 hz1 hz2 rfl (by decide) (some ⟨w.heap.size, 0, none⟩) 0 0 [] rfl (fun h => by cases h) rfl (fun b hb j u hj => by simp at hj) ⟨g0, 0, none⟩ n 8 (ccl h u n) rfl (by rw [ccl_len]; omega) (fun j v hj => ?_) (fun v hv => ?_) (by omega) (by unfold maxLen; omega) (by omega) ?_))
    · obtain ⟨h1, rfl⟩ := ccl_get h u n j v hj
      rw [plain_add, Nat.zero_add, HB1.out.cell (p := ⟨g0, j, none⟩) (World.block_lt_of_cell? w _ (HC.out j h1))]
      exact HC.out j h1
    · simp [ccl] at hv
      obtain ⟨i, _, rfl⟩ := hv
      rfl
    · intro v' w' hown hgr
      have HOW := Lib.hid hown
      have HGR := Lib.hid hgr
      clear hown hgr
      go_wp2
      go_ret
      have hown := HOW.out
      have HB2 := Below.grown HB1.out HGR.out (by simp) (fun g hg => by cases hg)
      rcases hown.2 with ⟨rfl, h0⟩ | ⟨g, cap2, cur, rfl, hg, hhp, _, _, _, _⟩
      · omega
      · refine ⟨_, _, g, rfl, fun _ => ⟨rfl, ?_, lt_of_heap hhp⟩, fun i hi => ?_, HB2⟩
        · have : w.heap.size + 1 ≤ g := by simpa using hg
          omega
        · rw [hown.cellAt i (by omega)]
          simp [ccl, hi]
set_option maxRecDepth 100000 in
set_option maxHeartbeats 4000000 in
theorem pairs_any (h u : Nat → Int) (n : Nat) (hn : n ≤ 8) (w : World) : Calls Try.prog 17 #[spV h u n] w (PrR w h u n) := by
  have HB := Lib.hid (alloc_below w (.cells (spc h u n) 28))
  have K26 := Lib.hid (clone_any h u n hn w.heap.size (w.alloc (.cells (spc h u n) 28)) (fun i hi => (NS.new w h u n).at i (by omega)))
  have hsl : ∀ W, (Instr.sliceAt 26 (.pointer (some ⟨w.heap.size, 0, none⟩)) none (some (.int .i64 (n : Int))) none).run Try.prog W = .ok (.slice (some ⟨w.heap.size, 0, none⟩) n 8) W := fun W => by
    rw [run_sliceAt_array_h W 26 ⟨w.heap.size, 0, none⟩ (by kernel_rfl) .i64 (n : Int) (by omega) (by rw [show Try.prog.arrayLen 26 = 8 by kernel_rfl]; omega)]
    rw [show Try.prog.arrayLen 26 = 8 by kernel_rfl, show Try.prog.elem 26 = 25 by kernel_rfl]
    go_simp
  have HR : Hid (∀ e w', PrR (w.alloc (.cells (spc h u n) 28)) h u n e w' → PrR w h u n e w') := Lib.hid (fun e w' ⟨o, cap, g, h1, h2, h3, h4⟩ => ⟨o, cap, g, h1, fun hp => ⟨(h2 hp).1, by have := (h2 hp).2.1; simp at this; omega, (h2 hp).2.2⟩, h3, bt h4⟩)
  have HE : Hid (∀ e w', PrR (w.alloc (.cells (spc h u n) 28)) h u n e w' → ∃ o cap, e = .returned (.slice o n cap)) := Lib.hid (fun e w' ⟨o, cap, g, h1, _⟩ => ⟨o, cap, h1⟩)
  generalize PrR w h u n = R at *
  generalize PrR (w.alloc (.cells (spc h u n) 28)) h u n = R1 at *
  unfold spV spc cplx at *
  generalize fb (h 0) = p0 at *
  generalize fb (u 0) = q0 at *
  generalize fb (h 1) = p1 at *
  generalize fb (u 1) = q1 at *
  generalize fb (h 2) = p2 at *
  generalize fb (u 2) = q2 at *
  generalize fb (h 3) = p3 at *
  generalize fb (u 3) = q3 at *
  generalize fb (h 4) = p4 at *
  generalize fb (u 4) = q4 at *
  generalize fb (h 5) = p5 at *
  generalize fb (u 5) = q5 at *
  generalize fb (h 6) = p6 at *
  generalize fb (u 6) = q6 at *
  generalize fb (h 7) = p7 at *
  generalize fb (u 7) = q7 at *
  go_enter Try.func17, Try.ntmps17
  go_wp2_with ((go_at_call 26; ((with_reducible refine (K26.out).mono ?_); intro e w1 hR1; have HR2 := Lib.hid (HR.out _ _ hR1); obtain ⟨o, cap, rfl⟩ := HE.out _ _ hR1; clear hR1)))
  exact HR2.out
/-- The sum of what is in hand, told. -/
theorem sum_pairs (h u : Nat → Int) (n : Nat) (hn : n ≤ 8) (hh : ∀ i, -1000000000 ≤ h i ∧ h i ≤ 1000000000) (hu : ∀ i, 0 ≤ u i ∧ u i ≤ 100) (o : Option Addr) (cap g : Nat) (w : World) (ho : 0 < n → o = some ⟨g, 0, none⟩) (hc : ∀ i, i < n → w.cell? ⟨g, i, none⟩ = some (.complex .f64 (fb (h i)) (fb (u i)))) :
    Calls Try.prog 16 #[.slice o n cap] w fun e w' => e = .returned (cplx (tot h n) (tot u n)) ∧ w = w' := by
  have := psum_any (prs h u n) (by intro p hp; simp [prs] at hp; obtain ⟨i, _, rfl⟩ := hp; exact ⟨small _ (by have := hh i; omega), small _ (by have := hu i; omega)⟩) (by rw [prs_len]; omega) o n cap g (prs_len h u n).symm w (fun hp => ho (by rw [prs_len] at hp; exact hp)) (fun k hk => by
    rw [prs_get]
    exact hc k (by rw [prs_len] at hk; exact hk))
  rw [acc_a h u hh n hn, acc_b h u hu n hn] at this
  exact this

/-- The chapter's example. -/
def ex0 : Nat → Int := wts [2, 1]
def ex1 : Nat → Int := upd (upd Zf 0 (-1)) 1 1
def ex2 : Nat → Int := upd (upd Zf 0 1) 1 (-1)
theorem up_nil (i : Nat) : upL [] i = true := by unfold upL; simp
theorem ex_u (i : Nat) : 0 ≤ ex0 i ∧ ex0 i ≤ 100 := by
  unfold ex0 wts
  rcases i with _ | _ | i <;> simp
theorem turn1 : tC (upL []) Zf ex0 2 = some 0 := by decide +kernel
theorem turn2 : tC (upL []) ex1 ex0 2 = some 1 := by decide +kernel
theorem turn3 : tC (upL []) ex2 ex0 2 = some 0 := by decide +kernel
theorem tS2 : tS (upL []) ex0 2 = 3 := by decide +kernel
theorem hand1 : ∀ i, nH (upL []) Zf ex0 2 i = ex1 i := by
  intro i
  unfold nH
  rw [turn1]
  simp only [tS2]
  unfold upd tH ex1 upd ex0 wts
  rcases i with _ | _ | i <;> simp [up_nil]
theorem hand2 : ∀ i, nH (upL []) ex1 ex0 2 i = ex2 i := by
  intro i
  unfold nH
  rw [turn2]
  simp only [tS2]
  unfold upd tH ex2 ex1 upd ex0 wts
  rcases i with _ | _ | i <;> simp [up_nil]
theorem nxp_nil (w : World) (h u : Nat → Int) (n : Nat) (hn : n ≤ 8) (hu : ∀ i, 0 ≤ u i ∧ u i ≤ 100) (hh : ∀ i, -1000000000 ≤ h i ∧ h i ≤ 1000000000) : NxP w h u n [] none 0 0 :=
  ⟨hn, hu, hh, by simp, fun h => absurd h (by simp), fun k hk => absurd hk (by simp)⟩
theorem next_all (h u : Nat → Int) (n : Nat) (hn : n ≤ 8) (hu : ∀ i, 0 ≤ u i ∧ u i ≤ 100) (hh : ∀ i, -1000000000 ≤ h i ∧ h i ≤ 1000000000) (w : World) :
    Calls Try.prog 12 #[spV h u n, .slice none 0 0] w (NxR w h u n (upL [])) := next_any h u n [] none 0 0 0 w (nxp_nil w h u n hn hu hh)
theorem ex1_b (i : Nat) : -1000000000 ≤ ex1 i ∧ ex1 i ≤ 1000000000 := by unfold ex1 upd Zf; split <;> (try split) <;> omega
theorem ex2_b (i : Nat) : -1000000000 ≤ ex2 i ∧ ex2 i ≤ 1000000000 := by unfold ex2 upd Zf; split <;> (try split) <;> omega
theorem n1_any (w : World) : Calls Try.prog 12 #[spV Zf ex0 2, .slice none 0 0] w fun e w' => e = .returned (.tuple #[spV ex1 ex0 2, .int .i64 0, .bool true]) ∧ Below w.heap.size w w' :=
  (next_all Zf ex0 2 (by omega) ex_u (fun i => by show (-1000000000 : Int) ≤ 0 ∧ (0 : Int) ≤ 1000000000; omega) w).mono fun e w' ⟨h1, h2⟩ => ⟨by rw [h1, turn1, spV.eq (fun i _ => hand1 i) (fun i _ => rfl)]; rfl, h2⟩
theorem n2_any (w : World) : Calls Try.prog 12 #[spV ex1 ex0 2, .slice none 0 0] w fun e w' => e = .returned (.tuple #[spV ex2 ex0 2, .int .i64 1, .bool true]) ∧ Below w.heap.size w w' :=
  (next_all ex1 ex0 2 (by omega) ex_u ex1_b w).mono fun e w' ⟨h1, h2⟩ => ⟨by rw [h1, turn2, spV.eq (fun i _ => hand2 i) (fun i _ => rfl)]; rfl, h2⟩
theorem n3_any (w : World) : ∃ h3, Calls Try.prog 12 #[spV ex2 ex0 2, .slice none 0 0] w fun e w' => e = .returned (.tuple #[spV h3 ex0 2, .int .i64 0, .bool true]) ∧ Below w.heap.size w w' :=
  ⟨_, (next_all ex2 ex0 2 (by omega) ex_u ex2_b w).mono fun e w' ⟨h1, h2⟩ => ⟨by rw [h1, turn3]; rfl, h2⟩⟩
end Go.Proofs.Ytbnopmkfmggliaa

namespace Go.Proofs.Ytbnopmkfmggliaa
open Go.RowKit
open Fl

theorem k7_ex (W : World) : Calls Try.prog 7 #[.slice (some ⟨W.heap.size, 0, none⟩) 2 2] (W.alloc (.cells #[.int .i64 2, .int .i64 1] 3)) fun e w' => e = .returned (.tuple #[spV Zf ex0 2, .int .i64 0]) ∧ Below W.heap.size W w' := by
  have h := new_any [2, 1] (by intro x hx; simp at hx; omega) (some ⟨W.heap.size, 0, none⟩) 2 W.heap.size 0 (W.alloc (.cells #[.int .i64 2, .int .i64 1] 3)) (fun _ => ⟨rfl, by simp⟩) (fun k hk => by
    have hr := heap_alloc_new W (.cells #[.int .i64 2, .int .i64 1] 3)
    rw [cell_of_row _ _ _ _ _ _ hr]
    match k, hk with
    | 0, _ => rfl
    | 1, _ => rfl
    | k + 2, hk => exact absurd hk (by simp))
  refine h.mono fun e w' ⟨h1, h2⟩ => ⟨?_, bt h2⟩
  rw [h1]
  have e1 : nwE [2, 1] = 0 := by decide
  have e2 : nwS [2, 1] = spV Zf ex0 2 := by unfold nwS; rw [e1, if_pos rfl]; rfl
  rw [e1, e2]
theorem aw19_any (w : World) : Calls Try.prog 19 #[] w fun e w' => e = .returned (.bool true) ∧ w = w' := by
  have K := Lib.hid (fun w => awake_any w)
  go_enter Try.func19, Try.ntmps19
  go_wp2_with ((go_at_call 27; ((with_reducible refine (K.out _).mono ?_); rintro e w1 ⟨rfl, rfl⟩)))
  go_ret
  exact ⟨rfl, rfl⟩
theorem n3_all : ∃ h3, ∀ w, Calls Try.prog 12 #[spV ex2 ex0 2, .slice none 0 0] w fun e w' => e = .returned (.tuple #[spV h3 ex0 2, .int .i64 0, .bool true]) ∧ Below w.heap.size w w' :=
  ⟨_, fun w => (next_all ex2 ex0 2 (by omega) ex_u ex2_b w).mono fun e w' ⟨h1, h2⟩ => ⟨by rw [h1, turn3]; rfl, h2⟩⟩
set_option maxRecDepth 100000 in
set_option maxHeartbeats 4000000 in
theorem awake22_any (w : World) : Calls Try.prog 6 #[] w fun e w' => e = .returned (.bool true) ∧ Below w.heap.size w w' := by
  have K7 := Lib.hid k7_ex
  have N1 := Lib.hid n1_any
  have N2 := Lib.hid n2_any
  have K19 := Lib.hid aw19_any
  go_enter Try.func6, Try.ntmps6
  go_upto_region 2 with (first
    | (go_at_call 7; ((with_reducible refine (K7.out _).mono ?_); rintro z w1 ⟨rfl, hb1⟩; have HB1 := Lib.hid hb1; have HZ1 := Lib.hid (NS.new w1 Zf Zf 0); clear hb1))
    | (refine wpList_store_ns (h' := Zf) (u' := ex0) (n' := 2) rfl _ _ rfl HZ1.out rfl rfl ?_))
  have HSa := Lib.hid (HZ1.out.row Zf ex0 2)
  have HBa := Lib.hid (below_setRow (HB1.out.trans ((alloc_below w1 (.cells (spc Zf Zf 0) 28)).mono HB1.out.size)) HB1.out.size (spc Zf ex0 2))
  have HG := Lib.hid HB1.out.size
  clear HB1 HZ1 K7
  have HS : Hid (NS ((w1.alloc (.cells #[.complex .f64 0 0, .complex .f64 0 0, .complex .f64 0 0, .complex .f64 0 0, .complex .f64 0 0, .complex .f64 0 0, .complex .f64 0 0, .complex .f64 0 0, .int .i64 0] 28)).setRow w1.heap.size (spc Zf ex0 2)) w1.heap.size Zf ex0 2) := HSa
  have HB : Hid (Below w.heap.size w ((w1.alloc (.cells #[.complex .f64 0 0, .complex .f64 0 0, .complex .f64 0 0, .complex .f64 0 0, .complex .f64 0 0, .complex .f64 0 0, .complex .f64 0 0, .complex .f64 0 0, .int .i64 0] 28)).setRow w1.heap.size (spc Zf ex0 2))) := HBa
  clear HSa HBa
  generalize (w1.alloc (.cells #[.complex .f64 0 0, .complex .f64 0 0, .complex .f64 0 0, .complex .f64 0 0, .complex .f64 0 0, .complex .f64 0 0, .complex .f64 0 0, .complex .f64 0 0, .int .i64 0] 28)).setRow w1.heap.size (spc Zf ex0 2) = w2 at *
  generalize w1.heap.size = g1 at *
  go_upto_region 3 with (first
    | (refine wpList_load_ns rfl _ rfl HS.out rfl ?_)
    | (go_at_call 12; ((with_reducible refine (N1.out _).mono ?_); rintro z w3 ⟨rfl, hbn⟩; have HSn := Lib.hid (HS.out.later hbn); have HBn := Lib.hid (HB.out.trans (hbn.mono HB.out.size)); clear hbn))
    | (refine wpList_store_ns rfl _ _ rfl HSn.out rfl rfl ?_))
  replace HS := Lib.hid (HSn.out.row ex1 ex0 2)
  replace HB := Lib.hid (below_setRow HBn.out HG.out (spc ex1 ex0 2))
  clear HSn HBn
  generalize w3.setRow g1 (spc ex1 ex0 2) = w4 at *
  go_upto_region 4 with (first
    | (refine wpList_load_ns rfl _ rfl HS.out rfl ?_)
    | (go_at_call 12; ((with_reducible refine (N2.out _).mono ?_); rintro z w5 ⟨rfl, hbn⟩; have HSn := Lib.hid (HS.out.later hbn); have HBn := Lib.hid (HB.out.trans (hbn.mono HB.out.size)); clear hbn))
    | (refine wpList_store_ns rfl _ _ rfl HSn.out rfl rfl ?_))
  replace HS := Lib.hid (HSn.out.row ex2 ex0 2)
  replace HB := Lib.hid (below_setRow HBn.out HG.out (spc ex2 ex0 2))
  clear HSn HBn
  generalize w5.setRow g1 (spc ex2 ex0 2) = w6 at *
  obtain ⟨h3, N3'⟩ := n3_all
  have N3 := Lib.hid N3'
  clear N3'
  go_upto_region 5 with (first
    | (refine wpList_load_ns rfl _ rfl HS.out rfl ?_)
    | (go_at_call 12; ((with_reducible refine (N3.out _).mono ?_); rintro z w7 ⟨rfl, hbn⟩; have HZ7 := Lib.hid (NS.new w7 Zf Zf 0); have HB7 := Lib.hid (HB.out.trans (hbn.mono HB.out.size)); clear hbn))
    | (refine wpList_store_ns (h' := h3) (u' := ex0) (n' := 2) rfl _ _ rfl HZ7.out rfl rfl ?_))
  have HB8a := Lib.hid (below_setRow (HB7.out.trans ((alloc_below w7 (.cells (spc Zf Zf 0) 28)).mono HB7.out.size)) HB7.out.size (spc h3 ex0 2))
  have HB8 : Hid (Below w.heap.size w ((w7.alloc (.cells #[.complex .f64 0 0, .complex .f64 0 0, .complex .f64 0 0, .complex .f64 0 0, .complex .f64 0 0, .complex .f64 0 0, .complex .f64 0 0, .complex .f64 0 0, .int .i64 0] 28)).setRow w7.heap.size (spc h3 ex0 2))) := HB8a
  clear HB8a
  generalize (w7.alloc (.cells #[.complex .f64 0 0, .complex .f64 0 0, .complex .f64 0 0, .complex .f64 0 0, .complex .f64 0 0, .complex .f64 0 0, .complex .f64 0 0, .complex .f64 0 0, .int .i64 0] 28)).setRow w7.heap.size (spc h3 ex0 2) = w8 at *
  go_wp2_with ((go_at_call 19; ((with_reducible refine (K19.out _).mono ?_); rintro z w9 ⟨rfl, rfl⟩)))
  go_ret
  exact ⟨rfl, HB8.out⟩
end Go.Proofs.Ytbnopmkfmggliaa
