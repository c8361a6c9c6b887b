/- Walk of the document's Print, out of what its Text answers. -/
import Derived.Test.YtfakkbjnapelfaaDX
import Derived.Test.YtfakkbjnapelfaaDZ
namespace Go.Proofs.Ytfakkbjnapelfaa.Dg
open Go.RowKit

/-- The first bytes of a text, then noughts: sixteen. -/
def prL (o : List UInt8) (i : Nat) : List UInt8 := o.take i ++ List.replicate (16 - i) 0
theorem prL_len (o : List UInt8) (ho : o.length = 32) (i : Nat) (hi : i ≤ 16) : (prL o i).length = 16 := by
  unfold prL; simp; omega
theorem prL_16 (o : List UInt8) : prL o 16 = o.take 16 := by unfold prL; simp
theorem prL_set (o : List UInt8) (ho : o.length = 32) (i : Nat) (hi : i < 16) : (prL o i).set i (o[i]'(by omega)) = prL o (i + 1) := by
  unfold prL
  rw [List.set_append_right _ _ (List.length_take_le _ _), show i - (o.take i).length = 0 by simp; omega, show 16 - i = (16 - (i + 1)) + 1 by omega, List.replicate_succ, List.set_cons_zero, List.take_succ_eq_append_getElem (by omega), List.append_assoc]
  rfl
def PW (w : World) (g : Nat) (l : List UInt8) (wr : World) : Prop := BB w.heap.size 48 zb16 wr ∧ BB g 48 l wr ∧ w.heap.size < g ∧ Below w.heap.size w wr
theorem PW.put {w wr : World} {g : Nat} {l : List UInt8} (t : PW w g l wr) (j : Nat) (x : UInt8) : PW w g (l.set j x) (wr.setCell ⟨g, j, none⟩ (.int .u8 (x.toNat : Int))) :=
  ⟨(heap_setCell_other wr ⟨g, j, none⟩ w.heap.size _ (by have := t.2.2.1; show w.heap.size ≠ g; omega)).trans t.1, t.2.1.put j x, t.2.2.1, t.2.2.2.setCell (by have := t.2.2.1; show w.heap.size ≤ g; omega) _⟩

set_option maxRecDepth 1000000 in
set_option maxHeartbeats 2000000 in
theorem rprint_any (l : List UInt8)
    (KT : ∀ w, Calls Try.prog 20 #[.string (W.str l)] w fun e w' => e = .returned (.string (W.str (sumL l))) ∧ Below w.heap.size w w') (w : World) :
    Calls Try.prog 22 #[.string (W.str l)] w fun e w' => e = .returned (.agg (W.bcells ((sumL l).take 16)).toArray) ∧ Below w.heap.size w w' := by
  have hlen := sumL_len l
  generalize sumL l = o at *
  have HLEN := Lib.hid hlen
  have h16 : (o.take 16).length = 16 := by simp [hlen]
  have HI48 := Lib.hid (info48 _ h16)
  have HSZ48 := Lib.hid (size48 _ h16)
  have HONE48 := Lib.hid (bcells_one (o.take 16))
  obtain ⟨q, hq⟩ : ∃ q, W.str o = q := ⟨_, rfl⟩
  have hqs : q.size = 32 := by rw [← hq, W.size_str, hlen]
  have HQS := Lib.hid hqs
  have HQ := Lib.hid hq
  have K1 := Lib.hid KT
  rw [hq] at K1
  clear hlen h16 hq hqs KT
  generalize W.str l = s at *
  go_enter Try.func22, Try.ntmps22
  go_wp2_with fail
  rw [zb16_is]
  refine (K1.out _).mono ?_
  rintro r w2 ⟨rfl, hb2⟩
  have hA : BB w.heap.size 48 zb16 w2 := (bb_new48 w zb16).later hb2
  have hB : Below w.heap.size w w2 := (show Below w.heap.size w (w.alloc (.cells (W.bcells zb16).toArray 48)) from (Below.refl _ _).alloc (Nat.le_refl _) _).trans (hb2.mono (by simp))
  go_upto_region 3 with fail
  rw [zb16_is]
  refine gen_wp (S := fun wz => Hid (PW w w2.heap.size (prL o 0) wz)) (Lib.hid ⟨hA.later ((Below.refl _ _).alloc (Nat.le_refl _) _), bb_new48 w2 zb16, hA.lt, hB.alloc hB.size _⟩) ?_
  intro W1 H1
  clear hA hB hb2
  generalize w2.heap.size = g at *
  go_wp2_with fail
  go_loopw [5] (fun iv wr => ∃ i : Nat, i ≤ 16 ∧ iv = .int .i64 (i : Int) ∧ Hid (PW w g (prL o i) wr)) (fun iv _ => 16 - (intOf iv).toNat)
  case atStart => exact ⟨0, Nat.zero_le _, rfl, H1⟩
  case round =>
    clear H1
    obtain ⟨i, hi, rfl, hP⟩ := hrel
    by_cases hi16 : i < 16
    · have hiq : i < q.size := by rw [HQS.out]; omega
      have hc := hP.out.2.1.cell i (by rw [prL_len o HLEN.out i hi]; exact hi16)
      have hf := hP.out.2.1.frozen i
      have hput := hP.out.put i (q[i]'hiq)
      have hbyte : q[i]'hiq = o[i]'(by rw [HLEN.out]; omega) := by
        have hql := HQ.out
        subst hql
        rfl
      rw [hbyte, prL_set o HLEN.out i hi16, ← hbyte] at hput
      have HPUT := Lib.hid hput
      have ii : (i : Int) < 16 := by omega
      have iq : (i : Int) < (q.size : Int) := by omega
      generalize (prL o i)[i]'(by rw [prL_len o HLEN.out i hi]; exact hi16) = ob at *
      clear hput hbyte hP
      go_wp2
      go_roundw
      case rel => exact ⟨i + 1, by omega, by go_num, HPUT⟩
      case measure => simp [intOf]; omega
    · obtain rfl : i = 16 := by omega
      rw [prL_16] at hP
      have hR := Lib.hid hP.out.1
      have hG := Lib.hid hP.out.2.1
      have HRR := Lib.hid (setRow_heap wr w.heap.size (W.bcells zb16).toArray (W.bcells (o.take 16)).toArray 48 _ hR.out)
      have HBB := Lib.hid (below_row hP.out.2.2.2 (Nat.le_refl _) (W.bcells (o.take 16)).toArray)
      clear hP
      go_wp2_with (first
        | (refine wpList_load_row rfl 48 (.tmp 4) rfl g rfl 48 (W.bcells (o.take 16)).toArray (0, 0) _ hG.out Try.underlying48 rfl HI48.out ?_)
        | (refine wpList_plain rfl fun _ hK => wp_store_row 48 (.tmp 2) (.tmp 17) rfl w.heap.size (W.bcells (o.take 16)).toArray rfl rfl 48 (W.bcells zb16).toArray hR.out HI48.out HSZ48.out HONE48.out (hK _ _ ?_)))
      refine bodyPost_ret (v := .agg (W.bcells (o.take 16)).toArray) ?_ rfl ⟨rfl, HBB.out⟩
      exact results_cell_row rfl _ _ w.heap.size 48 (W.bcells (o.take 16)).toArray (0, 0) _ rfl HRR.out Try.underlying48 rfl HI48.out
end Go.Proofs.Ytfakkbjnapelfaa.Dg
