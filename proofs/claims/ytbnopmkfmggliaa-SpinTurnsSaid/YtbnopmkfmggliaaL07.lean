/- Walk of the law SpinFair. -/
import Derived.Test.YtbnopmkfmggliaaL06
import Derived.Deep.OwnRows
set_option linter.unusedVariables false
set_option linter.unusedSimpArgs false
namespace Go.Proofs.Ytbnopmkfmggliaa
open Go.RowKit
open Fl

/-- A row of counts. -/
def icl (c : Nat → Int) (n : Nat) : Array Value := ((List.range n).map fun i => Value.int .i64 (c i)).toArray
def IR (w : World) (g : Nat) (c : Nat → Int) (n : Nat) : Prop := w.heap[g]? = some (.cells (icl c n) 3 (0, 0))
theorem made_ints (n : Nat) : madeCells #[Value.int .i64 0] n = icl Zf n := by
  apply Array.ext
  · simp [madeCells, icl]
  · intro i h1 h2
    simp [madeCells, icl, Nat.mod_one]
theorem IR.cell {w : World} {g : Nat} {c : Nat → Int} {n : Nat} (h : IR w g c n) (i : Nat) (hi : i < n) : w.cell? ⟨g, i, none⟩ = some (.int .i64 (c i)) := by
  rw [cell_of_row w g i _ _ _ h]
  simp [icl, hi]
theorem IR.free {w : World} {g : Nat} {c : Nat → Int} {n : Nat} (h : IR w g c n) (i : Nat) : w.frozen? ⟨g, i, none⟩ = false := frozen_of_row w g i _ _ h
theorem IR.set {w : World} {g : Nat} {c : Nat → Int} {n : Nat} (h : IR w g c n) (i : Nat) (hi : i < n) (a : Int) : IR (w.setCell ⟨g, i, none⟩ (.int .i64 a)) g (upd c i a) n := by
  have := heap_setCell_same w g i _ 3 (.int .i64 a) h
  refine this.trans ?_
  congr 2
  apply Array.ext'
  refine List.ext_getElem (by simp [icl]) (fun j h1 h2 => ?_)
  simp only [icl, Array.toList_setIfInBounds, List.getElem_set, List.getElem_map, List.getElem_range]
  unfold upd
  by_cases e : i = j
  · subst e; rw [if_pos rfl, if_pos rfl]
  · rw [if_neg e, if_neg (fun h => e h.symm)]
theorem IR.later {w w' : World} {g : Nat} {c : Nat → Int} {n : Nat} (h : IR w g c n) (hb : Below w.heap.size w w') : IR w' g c n := (hb.block _ (lt_of_heap h)).trans h
theorem IR.row {w : World} {g q : Nat} {c : Nat → Int} {n : Nat} (h : IR w g c n) (hq : g ≠ q) (cs : Array Value) : IR (w.setRow q cs) g c n := by
  unfold IR; rw [setRow_other w q g _ hq]; exact h
theorem info3 : (Try.prog.info? 3).map (fun i => (i.zero, i.size, i.bytes)) = some (some (.int .i64 0), 1, 8) := by kernel_rfl
theorem make_ints (n : Nat) (hn : n ≤ 8) (w : World) : (Instr.makeSlice 22 (.int .i64 (n : Int)) (.int .i64 (n : Int))).run Try.prog w = .ok (.slice (some ⟨w.heap.size, 0, none⟩) n n) (w.alloc (.cells (icl Zf n) 3)) := by
  have := run_make_row' (P := Try.prog) 22 3 (.int .i64 0) 8 Try.underlying22 info3 rfl .i64 .i64 n (by omega) (by omega) w
  rw [made_ints] at this
  exact this
theorem NS.ir {w : World} {g q : Nat} {h u c : Nat → Int} {n m : Nat} (H : NS w g h u n) (I : IR w q c m) : g ≠ q := by
  intro e; subst e
  unfold NS at H; unfold IR at I
  rw [H] at I
  simp at I
theorem cle {c : Nat → Int} {n : Nat} (hc : ∀ i, 0 ≤ c i) (j : Nat) (hj : j < n) : c j ≤ tot c n := by
  have h5 := tot_le (f := upd Zf j (c j)) (g := c) (n := n) (fun i hi => by
    unfold upd
    by_cases e : i = j
    · subst e; rw [if_pos rfl]; omega
    · rw [if_neg e]; exact hc i)
  have h6 := tot_upd Zf j (c j) n
  rw [if_pos hj, tot_zero] at h6
  have h7 : Zf j = 0 := rfl
  omega
/-- What the memory of a round holds. -/
structure FrE (w wr : World) (g5 g7 g8 : Nat) (h c u : Nat → Int) (n : Nat) : Prop where
  S : NS wr g5 h u n
  F : NS wr g7 Zf u n
  I : IR wr g8 c n
  B : Below w.heap.size w wr
theorem FrE.ne {w wr : World} {g5 g7 g8 : Nat} {h c u : Nat → Int} {n : Nat} (E : FrE w wr g5 g7 g8 h c u n) : g5 ≠ g8 ∧ g7 ≠ g8 := ⟨E.S.ir E.I, E.F.ir E.I⟩

set_option maxRecDepth 1000000 in
set_option maxHeartbeats 8000000 in
theorem fair_any (l : List Int) (hl : ∀ x ∈ l, -9223372036854775808 ≤ x ∧ x ≤ 9223372036854775807) (rd : Nat) (hrd : rd ≤ 255) (at0 : Option Addr) (cap b off : Nat) (w : World) (hat : 0 < l.length → at0 = some ⟨b, off, none⟩ ∧ b < w.heap.size) (hc : DIn w b off l) :
    Calls Try.prog 4 #[.slice at0 l.length cap, .int .u8 (rd : Int)] w fun e w' => e = .returned (.bool true) ∧ Below w.heap.size w w' := by
  have K6 := Lib.hid awake22_any
  have HC := Lib.hid hc
  have HAT := Lib.hid hat
  have K7 : Hid (∀ wr, Below w.heap.size w wr → Calls Try.prog 7 #[.slice at0 l.length cap] wr fun e w' => e = .returned (.tuple #[nwS l, .int .i64 (nwE l)]) ∧ Below wr.heap.size wr w') := Lib.hid (fun wr hb => new_any l hl at0 cap b off wr (fun hp => ⟨(hat hp).1, Nat.lt_of_lt_of_le (hat hp).2 hb.size⟩) (hc.later hb (fun hp => (hat hp).2)))
  clear hat hc hl
  by_cases h0 : nwE l = 0
  · have hnw : l.length ≤ 8 ∧ inW l := by
      unfold nwE at h0
      by_cases h : 8 < l.length
      · rw [if_pos h] at h0; omega
      · rw [if_neg h] at h0
        by_cases hw : inW l
        · exact ⟨by omega, hw⟩
        · rw [if_neg hw] at h0; omega
    have e2 : nwS l = spV Zf (wts l) l.length := by unfold nwS; rw [h0, if_pos rfl]
    rw [h0, e2] at K7
    clear h0 e2
    obtain ⟨n, hn⟩ : ∃ n, n = l.length := ⟨_, rfl⟩
    have HNL := Lib.hid hn
    have hn8 : n ≤ 8 := by omega
    have HU : Hid (∀ i, i < n → 1 ≤ wts l i ∧ wts l i ≤ 100) := Lib.hid (fun i hi => by
      unfold wts
      rw [List.getD_eq_getElem?_getD, List.getElem?_eq_getElem (by omega)]
      exact hnw.2 _ (List.getElem_mem (by omega)))
    have HU2 : Hid (∀ i, 0 ≤ wts l i ∧ wts l i ≤ 100) := Lib.hid (fun i => by
      by_cases hi : i < n
      · have := HU.out i hi; omega
      · unfold wts
        rw [List.getD_eq_getElem?_getD, List.getElem?_eq_none (by omega)]
        decide)
    have HWT : Hid (∀ (k : Nat) (hk : k < l.length), l[k] = wts l k) := Lib.hid (fun k hk => by
      unfold wts; rw [List.getD_eq_getElem?_getD, List.getElem?_eq_getElem hk]; rfl)
    rw [← hn] at K7 ⊢
    clear hn hnw
    generalize wts l = u at *
    obtain ⟨m, hm⟩ : ∃ m, m = 1 + rd % 3 := ⟨_, rfl⟩
    have em : (1 : Int) + (rd : Int) % 3 = (m : Int) := by omega
    have hm3 : m ≤ 3 := by omega
    have ew : IntKind.u8.wrap (m : Int) = (m : Int) := by rw [IntKind.wrap_u8]; omega
    clear hm hrd
    go_enter Try.func4, Try.ntmps4
    go_upto_region 4 with (first
      | (go_at_call 6; ((with_reducible refine (K6.out _).mono ?_); rintro z w1 ⟨rfl, hb1⟩; have HB1 := Lib.hid hb1; clear hb1))
      | (go_at_call 7; ((with_reducible refine (K7.out _ HB1.out).mono ?_); rintro z w2 ⟨rfl, hb2⟩; have HB2 := Lib.hid (HB1.out.trans (hb2.mono HB1.out.size)); have HZ2 := Lib.hid (NS.new w2 Zf Zf 0); clear hb2))
      | (refine wpList_store_ns (h' := Zf) (u' := u) (n' := n) rfl _ _ rfl HZ2.out rfl rfl ?_))
    have HSa := Lib.hid (HZ2.out.row Zf u n)
    have HBa := Lib.hid (below_setRow (HB2.out.trans ((alloc_below w2 (.cells (spc Zf Zf 0) 28)).mono HB2.out.size)) HB2.out.size (spc Zf u n))
    have HS3 : Hid (NS ((w2.alloc (.cells #[.complex .f64 0 0, .complex .f64 0 0, .complex .f64 0 0, .complex .f64 0 0, .complex .f64 0 0, .complex .f64 0 0, .complex .f64 0 0, .complex .f64 0 0, .int .i64 0] 28)).setRow w2.heap.size (spc Zf u n)) w2.heap.size Zf u n) := HSa
    have HB3 : Hid (Below w.heap.size w ((w2.alloc (.cells #[.complex .f64 0 0, .complex .f64 0 0, .complex .f64 0 0, .complex .f64 0 0, .complex .f64 0 0, .complex .f64 0 0, .complex .f64 0 0, .complex .f64 0 0, .int .i64 0] 28)).setRow w2.heap.size (spc Zf u n))) := HBa
    have HG5 := Lib.hid HB2.out.size
    clear HSa HBa HB1 HB2 HZ2 K6 K7
    generalize (w2.alloc (.cells #[.complex .f64 0 0, .complex .f64 0 0, .complex .f64 0 0, .complex .f64 0 0, .complex .f64 0 0, .complex .f64 0 0, .complex .f64 0 0, .complex .f64 0 0, .int .i64 0] 28)).setRow w2.heap.size (spc Zf u n) = w3 at *
    generalize w2.heap.size = g5 at *
    have HZ3 : Hid (NS (w3.alloc (.cells #[.complex .f64 0 0, .complex .f64 0 0, .complex .f64 0 0, .complex .f64 0 0, .complex .f64 0 0, .complex .f64 0 0, .complex .f64 0 0, .complex .f64 0 0, .int .i64 0] 28)) w3.heap.size Zf Zf 0) := Lib.hid (NS.new w3 Zf Zf 0)
    go_upto_region 7 with (first
      | (refine wpList_load_ns rfl _ rfl HS3.out rfl ?_)
      | (refine wpList_store_ns (h' := Zf) (u' := u) (n' := n) rfl _ _ rfl HZ3.out rfl rfl ?_))
    have HS4 : Hid (NS ((w3.alloc (.cells #[.complex .f64 0 0, .complex .f64 0 0, .complex .f64 0 0, .complex .f64 0 0, .complex .f64 0 0, .complex .f64 0 0, .complex .f64 0 0, .complex .f64 0 0, .int .i64 0] 28)).setRow w3.heap.size (spc Zf u n)) g5 Zf u n) := Lib.hid ((HS3.out.later (alloc_below w3 _)).rowOther (by have := HS3.out.lt; omega) _)
    have HF4 : Hid (NS ((w3.alloc (.cells #[.complex .f64 0 0, .complex .f64 0 0, .complex .f64 0 0, .complex .f64 0 0, .complex .f64 0 0, .complex .f64 0 0, .complex .f64 0 0, .complex .f64 0 0, .int .i64 0] 28)).setRow w3.heap.size (spc Zf u n)) w3.heap.size Zf u n) := Lib.hid (HZ3.out.row Zf u n)
    have HB4 : Hid (Below w.heap.size w ((w3.alloc (.cells #[.complex .f64 0 0, .complex .f64 0 0, .complex .f64 0 0, .complex .f64 0 0, .complex .f64 0 0, .complex .f64 0 0, .complex .f64 0 0, .complex .f64 0 0, .int .i64 0] 28)).setRow w3.heap.size (spc Zf u n))) := Lib.hid (below_setRow (HB3.out.trans ((alloc_below w3 (.cells #[.complex .f64 0 0, .complex .f64 0 0, .complex .f64 0 0, .complex .f64 0 0, .complex .f64 0 0, .complex .f64 0 0, .complex .f64 0 0, .complex .f64 0 0, .int .i64 0] 28)).mono HB3.out.size)) HB3.out.size _)
    have HG7 := Lib.hid (And.intro HB3.out.size (show g5 ≠ w3.heap.size by have := HS3.out.lt; omega))
    clear HS3 HB3 HZ3
    generalize (w3.alloc (.cells #[.complex .f64 0 0, .complex .f64 0 0, .complex .f64 0 0, .complex .f64 0 0, .complex .f64 0 0, .complex .f64 0 0, .complex .f64 0 0, .complex .f64 0 0, .int .i64 0] 28)).setRow w3.heap.size (spc Zf u n) = w4 at *
    generalize w3.heap.size = g7 at *
    have HW : Hid (∃ W : Nat, tot u n = (W : Int) ∧ W ≤ 800) := Lib.hid (by
      have h3 := tot_le (f := u) (g := fun _ => 100) (n := n) (fun i _ => (HU2.out i).2)
      have h4 : ∀ k : Nat, tot (fun _ => 100) k = 100 * (k : Int) := fun k => by
        induction k with
        | zero => rfl
        | succ k ih => rw [tot, ih]; push_cast; omega
      rw [h4] at h3
      have h5 := tot_le (f := Zf) (g := u) (n := n) (fun i _ => (HU2.out i).1)
      rw [tot_zero] at h5
      exact ⟨(tot u n).toNat, by omega, by omega⟩)
    obtain ⟨W, hW, hW8⟩ := HW.out
    have HWW := Lib.hid hW
    clear hW HW
    go_wp2
    go_loopw [29] (fun i wr => ∃ k : Nat, k ≤ m ∧ i = .int .u8 (k : Int) ∧ Hid (NS wr g5 Zf u n ∧ NS wr g7 Zf u n ∧ Below w.heap.size w wr)) (fun i _ => m - (intOf i).toNat)
    case atStart => exact ⟨0, by omega, rfl, Lib.hid ⟨HS4.out, HF4.out, HB4.out⟩⟩
    case round =>
      obtain ⟨k, hk, rfl, HM⟩ := hrel
      clear HS4 HF4 HB4
      by_cases hlt : k < m
      · have hkm : (k : Int) < (m : Int) := by omega
        have hzb : ∀ i, -1000000000 ≤ Zf i ∧ Zf i ≤ 1000000000 := fun i => by show (-1000000000 : Int) ≤ 0 ∧ (0 : Int) ≤ 1000000000; omega
        have KT : Hid (∀ wz, Calls Try.prog 14 #[spV Zf u n] wz fun e w' => e = .returned (.int .i64 (W : Int)) ∧ Below wz.heap.size wz w') := Lib.hid (fun wz => by
          have := total_any Zf u n hn8 hzb HU2.out wz
          rw [HWW.out] at this
          exact this)
        have KS := Lib.hid (fun wz => same_any Zf u n hzb HU2.out wz)
        clear hzb
        have hmk := make_ints n hn8
        go_upto_region 10 with fail
        have HM1 : Hid (FrE w (wr.alloc (.cells (icl Zf n) 3)) g5 g7 wr.heap.size Zf Zf u n) := Lib.hid ⟨HM.out.1.later (alloc_below wr _), HM.out.2.1.later (alloc_below wr _), heap_alloc_new wr _, HM.out.2.2.trans ((alloc_below wr _).mono HM.out.2.2.size)⟩
        have HG8 := Lib.hid HM.out.2.2.size
        clear HM hmk
        generalize wr.alloc (.cells (icl Zf n) 3) = wr1 at *
        generalize wr.heap.size = g8 at *
        go_wp2_with (first
          | (refine wpList_load_ns rfl _ rfl HM1.out.S rfl ?_)
          | (go_at_call 14; ((with_reducible refine (KT.out _).mono ?_); rintro z w6 ⟨rfl, hb6⟩; have HM6 : Hid (FrE w w6 g5 g7 g8 Zf Zf u n) := Lib.hid ⟨HM1.out.S.later hb6, HM1.out.F.later hb6, HM1.out.I.later hb6, HM1.out.B.trans (hb6.mono HM1.out.B.size)⟩; clear hb6)))
        clear HM1 KT
        go_loopw [36] (fun i wz => ∃ (t : Nat) (h c : Nat → Int), t ≤ W ∧ i = .int .i64 (t : Int) ∧ Hid (Fr u n t h c ∧ FrE w wz g5 g7 g8 h c u n)) (fun i _ => W - (intOf i).toNat)
        case atStart => exact ⟨0, Zf, Zf, by omega, rfl, Lib.hid ⟨Fr.start' (fun i hi => (HU.out i hi).1), HM6.out⟩⟩
        case round =>
          obtain ⟨t, h, c, ht, rfl, HF⟩ := hrel
          clear HM6
          by_cases htW : t < W
          · have htw : (t : Int) < (W : Int) := by omega
            have hn0 : 0 < n := by
              rcases Nat.eq_zero_or_pos n with e | e
              · have := HWW.out; rw [e] at this; simp only [tot] at this; omega
              · exact e
            obtain ⟨j, hcj, hjn⟩ := Fr.chosen (u := u) (n := n) (h := h) (c := c) (t := t) hn0 up_nil
            have hF2 := HF.out.1.step up_nil (fun i hi => (HU.out i hi).1) hcj
            have hhb := HF.out.1.bound hn8 HU2.out (by omega)
            have hhb2 := hF2.bound hn8 HU2.out (by omega)
            have hcj0 := HF.out.1.c0 j
            have hcj1 := cle HF.out.1.c0 j hjn
            rw [HF.out.1.cs] at hcj1
            obtain ⟨h2, hh2⟩ : ∃ h2, nH (upL []) h u n = h2 := ⟨_, rfl⟩
            have K12 : Hid (∀ wz, Calls Try.prog 12 #[spV h u n, .slice none 0 0] wz fun e w' => e = .returned (.tuple #[spV h2 u n, .int .i64 (j : Int), .bool true]) ∧ Below wz.heap.size wz w') := Lib.hid (fun wz => (next_all h u n hn8 HU2.out hhb wz).mono fun e w' ⟨h1, h2⟩ => ⟨by rw [h1, hcj, hh2]; rfl, h2⟩)
            rw [hh2] at hF2 hhb2
            have K17 := Lib.hid (fun wz => pairs_any h2 u n hn8 wz)
            have K16 : Hid (∀ (o : Option Addr) (cap g : Nat) (wz : World), (0 < n → o = some ⟨g, 0, none⟩) → (∀ i, i < n → wz.cell? ⟨g, i, none⟩ = some (.complex .f64 (fb (h2 i)) (fb (u i)))) → Calls Try.prog 16 #[.slice o n cap] wz fun e w' => e = .returned (cplx 0 (W : Int)) ∧ wz = w') := Lib.hid (fun o cap g wz ho hcc => by
              have := sum_pairs h2 u n hn8 hhb2 HU2.out o cap g wz ho hcc
              rw [hF2.s, HWW.out] at this
              exact this)
            have K15 : Hid (∀ wz, Calls Try.prog 15 #[cplx 0 (W : Int)] wz fun e w' => e = .returned (.tuple #[.int .i64 0, .int .i64 (W : Int), .int .i64 0]) ∧ wz = w') := Lib.hid (fun wz => parts_any 0 W (small _ (by omega)) (small _ (by omega)) wz)
            have HF2 := Lib.hid hF2
            have HE := Lib.hid HF.out.2
            clear hF2 hhb hhb2 hh2 hcj HF
            have hji : (j : Int) < (n : Int) := by omega
            go_upto_region 15 with (first
              | (refine wpList_load_ns rfl _ rfl HE.out.S rfl ?_)
              | (go_at_call 12; ((with_reducible refine (K12.out _).mono ?_); rintro z w7 ⟨rfl, hb7⟩; have HE7 : Hid (FrE w w7 g5 g7 g8 h c u n) := Lib.hid ⟨HE.out.S.later hb7, HE.out.F.later hb7, HE.out.I.later hb7, HE.out.B.trans (hb7.mono HE.out.B.size)⟩; clear hb7))
              | (refine wpList_store_ns rfl _ _ rfl HE7.out.S rfl rfl ?_))
            have HE8 : Hid (FrE w (w7.setRow g5 (spc h2 u n)) g5 g7 g8 h2 c u n) := Lib.hid ⟨HE7.out.S.row h2 u n, HE7.out.F.rowOther HG7.out.2.symm _, HE7.out.I.row HE7.out.ne.1.symm _, below_setRow HE7.out.B HG5.out _⟩
            clear HE HE7 K12
            generalize w7.setRow g5 (spc h2 u n) = w8 at *
            go_upto_region 17 with fail
            have hcell := HE8.out.I.cell j hjn
            have hfree := HE8.out.I.free j
            have hadd : wrap64 (c j + 1) = c j + 1 := IntWalk.wrap64_in _ (by omega)
            have HE9 : Hid (FrE w (w8.setCell ⟨g8, j, none⟩ (.int .i64 (c j + 1))) g5 g7 g8 h2 (upd c j (c j + 1)) u n) := Lib.hid ⟨HE8.out.S.other HE8.out.ne.1 _ _, HE8.out.F.other HE8.out.ne.2 _ _, HE8.out.I.set j hjn _, HE8.out.B.setCell HG8.out _⟩
            generalize upd c j (c j + 1) = c2 at *
            generalize c j = y at *
            go_upto_region 18 with fail
            clear HE8 hcell hfree hadd
            generalize w8.setCell ⟨g8, j, none⟩ (.int .i64 (y + 1)) = w9 at *
            go_wp2_with (first
              | (refine wpList_load_ns rfl _ rfl HE9.out.S rfl ?_)
              | (go_at_call 17; ((with_reducible refine (K17.out _).mono ?_); rintro z w10 ⟨o, cp, gp, rfl, ho, hcc, hb10⟩; have HE10 : Hid (FrE w w10 g5 g7 g8 h2 c2 u n) := Lib.hid ⟨HE9.out.S.later hb10, HE9.out.F.later hb10, HE9.out.I.later hb10, HE9.out.B.trans (hb10.mono HE9.out.B.size)⟩; have HPR := Lib.hid (And.intro (fun hp => (ho hp).1) hcc); clear ho hcc hb10))
              | (go_at_call 16; ((with_reducible refine (K16.out _ _ _ _ HPR.out.1 HPR.out.2).mono ?_); rintro z w11 ⟨rfl, rfl⟩))
              | (go_at_call 15; ((with_reducible refine (K15.out _).mono ?_); rintro z w12 ⟨rfl, rfl⟩)))
            go_roundw
            case rel => exact ⟨t + 1, h2, c2, by omega, by go_num, Lib.hid ⟨HF2.out, HE10.out⟩⟩
            case measure => simp [intOf]; omega
          · obtain rfl : t = W := by omega
            obtain ⟨hcu, hhz⟩ := HF.out.1.round (fun i hi => (HU.out i hi).1) HWW.out.symm
            have HCU := Lib.hid hcu
            have HE : Hid (NS wr g5 Zf u n ∧ NS wr g7 Zf u n ∧ IR wr g8 c n ∧ Below w.heap.size w wr) := Lib.hid ⟨HF.out.2.S.eq (fun i _ => hhz i) (fun _ _ => rfl), HF.out.2.F, HF.out.2.I, HF.out.2.B⟩
            clear hcu hhz HF
            go_wp2
            go_loop [69] (fun i => ∃ q : Nat, q ≤ n ∧ i = .int .i64 (q : Int)) (fun i => n - (intOf i).toNat)
            case atStart => exact ⟨0, by omega, rfl⟩
            case round =>
              obtain ⟨q, hq, rfl⟩ := hrel
              by_cases hqn : q < n
              · have hqi : (q : Int) < (n : Int) := by omega
                have hql : q < l.length := by rw [← HNL.out]; exact hqn
                have hcell := HC.out q hql
                obtain ⟨rfl, hbb⟩ := HAT.out (by omega)
                rw [← HE.out.2.2.2.cell (p := ⟨b, off + q, none⟩) hbb, HWT.out q hql] at hcell
                have hcnt := HE.out.2.2.1.cell q hqn
                rw [HCU.out q hqn] at hcnt
                clear hbb hql
                generalize u q = x at *
                go_wp2
                go_round
                case rel => exact ⟨q + 1, by omega, by go_num⟩
                case measure => simp [intOf]; omega
              · obtain rfl : q = n := by omega
                go_wp2_with (first
                  | (refine wpList_load_ns rfl _ rfl HE.out.1 rfl ?_)
                  | (refine wpList_load_ns rfl _ rfl HE.out.2.1 rfl ?_)
                  | (go_at_call 11; ((with_reducible refine (KS.out _).mono ?_); rintro z w9 ⟨rfl, hb9⟩; have HM9 : Hid (NS w9 g5 Zf u q ∧ NS w9 g7 Zf u q ∧ Below w.heap.size w w9) := Lib.hid ⟨HE.out.1.later hb9, HE.out.2.1.later hb9, HE.out.2.2.2.trans (hb9.mono HE.out.2.2.2.size)⟩; clear hb9)))
                go_roundw
                case rel => exact ⟨k + 1, by omega, by go_num, HM9⟩
                case measure => simp [intOf]; omega
      · obtain rfl : k = m := by omega
        go_wp2
        go_ret
        exact ⟨rfl, HM.out.2.2⟩
  · have HE := Lib.hid h0
    have e1 : ((nwE l : Int) == 0) = false := by rw [beq_eq_false_iff_ne]; exact h0
    obtain ⟨E, hE⟩ : ∃ E, nwE l = E := ⟨_, rfl⟩
    have e2 : nwS l = spV Zf Zf 0 := by unfold nwS; rw [if_neg h0]
    rw [e2, hE] at K7
    rw [hE] at e1 HE
    clear h0 e2 hE
    go_enter Try.func4, Try.ntmps4
    go_upto_region 4 with (first
      | (go_at_call 6; ((with_reducible refine (K6.out _).mono ?_); rintro z w1 ⟨rfl, hb1⟩; have HB1 := Lib.hid hb1; clear hb1))
      | (go_at_call 7; ((with_reducible refine (K7.out _ HB1.out).mono ?_); rintro z w2 ⟨rfl, hb2⟩; have HB2 := Lib.hid (HB1.out.trans (hb2.mono HB1.out.size)); have HZ2 := Lib.hid (NS.new w2 Zf Zf 0); clear hb2))
      | (refine wpList_store_ns (h' := Zf) (u' := Zf) (n' := 0) rfl _ _ rfl HZ2.out rfl rfl ?_))
    have HBa := Lib.hid (below_setRow (HB2.out.trans ((alloc_below w2 (.cells (spc Zf Zf 0) 28)).mono HB2.out.size)) HB2.out.size (spc Zf Zf 0))
    have HB3 : Hid (Below w.heap.size w ((w2.alloc (.cells #[.complex .f64 0 0, .complex .f64 0 0, .complex .f64 0 0, .complex .f64 0 0, .complex .f64 0 0, .complex .f64 0 0, .complex .f64 0 0, .complex .f64 0 0, .int .i64 0] 28)).setRow w2.heap.size (spc Zf Zf 0))) := HBa
    clear HBa
    generalize (w2.alloc (.cells #[.complex .f64 0 0, .complex .f64 0 0, .complex .f64 0 0, .complex .f64 0 0, .complex .f64 0 0, .complex .f64 0 0, .complex .f64 0 0, .complex .f64 0 0, .int .i64 0] 28)).setRow w2.heap.size (spc Zf Zf 0) = w3 at *
    go_wp2
    go_ret
    exact ⟨rfl, HB3.out⟩
end Go.Proofs.Ytbnopmkfmggliaa
