/- Bytes of a text, more appended: the row may bear a mark behind its last cell.; Walk of digest.Print.; Walk of digest.Print. -/
import Derived.Test.YtjkpopdjmmgbbabGreatJ07
import Derived.Lib.BufferMore
set_option linter.unusedVariables false
set_option linter.unusedSimpArgs false
namespace Go.Proofs.YtjkpopdjmmgbbabGreat.Dg
open Go.RowKit

/-- The call's own row of bytes. -/
def MR (B : Nat) (v : Value) (l : List UInt8) (w : World) : Prop :=
  ∃ g cap cs T lo hi, v = .slice (some ⟨g, 0, none⟩) l.length cap ∧ B ≤ g ∧ l.length ≤ cap ∧ w.heap[g]? = some (.cells cs T (lo, hi)) ∧ cap ≤ cs.size ∧ (hi = 0 ∨ cap ≤ lo) ∧ ∀ j (hj : j < l.length), cs[j]? = some (.int .u8 (l[j].toNat : Int))
theorem MR.later {B : Nat} {v : Value} {l : List UInt8} {w w' : World} (h : MR B v l w) (hb : Below w.heap.size w w') : MR B v l w' := by
  obtain ⟨g, cap, cs, T, lo, hi, h1, h2, h3, h4, h5⟩ := h
  exact ⟨g, cap, cs, T, lo, hi, h1, h2, h3, (hb.block _ (lt_of_some h4)).trans h4, h5⟩
theorem mr_start (s : ByteArray) (w : World) : ∃ v w', (convert 9 51 (.string s)).run Tryz.prog w = .ok v w' ∧ MR w.heap.size v s.data.toList w' ∧ Below w.heap.size w w' := by
  refine ⟨_, _, run_bytes_of_string w 9 51 5 s Tryz.underlying9 Tryz.underlying51 Tryz.underlying5, ?_, ((Below.refl _ w).drew).alloc (Nat.le_refl _) _⟩
  have hc := grownCap_ge w s.size 0 5
  generalize grownCap w s.size 0 5 = cap at *
  have hsz : (bytesRow s cap).size = cap := by
    rw [bytesRow, Array.size_append, Array.size_map, Array.size_replicate]
    show s.size + (cap - s.size) = cap
    omega
  refine ⟨w.heap.size, cap, bytesRow s cap, 5, (bytesRow s cap).size, (bytesRow s cap).size + 1, rfl, Nat.le_refl _, hc, ?_, by omega, Or.inr (by omega), ?_⟩
  · show (w.heap.push _)[w.heap.size]? = _
    simp
  · intro j hj
    have hd : j < s.data.size := by simpa using hj
    rw [bytesRow, Array.getElem?_append_left (by simpa using hj), Array.getElem?_map, Array.getElem?_eq_getElem hd]
    simp
theorem mr_append {B : Nat} {v : Value} {l : List UInt8} {w : World} (h : MR B v l w) (c : UInt8) (b : Nat) (hb : w.cell? ⟨b, 0, none⟩ = some (.int .u8 (c.toNat : Int))) (hl : l.length ≤ 10000) (hB : B ≤ w.heap.size) (ty : TypeId) :
    ∃ v' w', (Builtin.append_ #[51, 51] ty #[v, .slice (some ⟨b, 0, none⟩) 1 1]).run Tryz.prog w = .ok v' w' ∧ MR B v' (l ++ [c]) w' ∧ Below B w w' := by
  obtain ⟨g, cap, cs, T, lo, hi, rfl, hBg, hlc, hg, hcs, hfr, hcell⟩ := h
  obtain ⟨i0, hi0, hz0, hz1, hz2⟩ := info_parts W.Tryz.info5
  have hnews : ∀ j u, [Value.int .u8 (c.toNat : Int)][j]? = some u → w.cell? ((⟨b, 0, none⟩ : Addr).add j) = some u := by
    intro j u hj
    match j, hj with
    | 0, hj => simp at hj; subst hj; exact hb
  by_cases hroom : l.length + 1 ≤ cap
  · have hf := run_firstCells_some (P := Tryz.prog) w 1 1 ⟨b, 0, none⟩ 1 1 [.int .u8 (c.toNat : Int)] rfl hnews
    have hfz : w.frozen? ⟨g, l.length, none⟩ = false := by
      simp only [World.frozen?, hg]
      rcases hfr with h0 | h0
      · subst h0; simp
      · simp; omega
    have hcl : w.cell? ⟨g, l.length, none⟩ = some cs[l.length] := by rw [cell_of_row w g _ cs T _ hg, Array.getElem?_eq_getElem (by omega)]
    have hst : (store ⟨g, l.length, none⟩ (.int .u8 (c.toNat : Int))).run Tryz.prog w = .ok () (w.setCell ⟨g, l.length, none⟩ (.int .u8 (c.toNat : Int))) := by
      rw [run_store Tryz.prog w _ _ _ rfl]
      simp [hcl, hfz]
    refine ⟨.slice (some ⟨g, 0, none⟩) (l.length + 1) cap, w.setCell ⟨g, l.length, none⟩ (.int .u8 (c.toNat : Int)), ?_, ?_, (Below.refl _ _).setCell hBg _⟩
    · simp [Builtin.append_, run_underlying Tryz.underlying51, sizeOf, typeInfo, hi0, hz1, Builtin.lenOf, hroom, hf, Addr.add_lit, storeCells, hst]
    · refine ⟨g, cap, cs.setIfInBounds l.length (.int .u8 (c.toNat : Int)), T, lo, hi, by simp, hBg, by simp; omega, Go.Lib.heap_setCell_same hg _, by simpa using hcs, hfr, ?_⟩
      intro j hj
      have hj2 : j < l.length + 1 := by simpa using hj
      by_cases hjl : j < l.length
      · rw [Array.getElem?_setIfInBounds_ne (by omega), hcell j hjl, List.getElem_append_left hjl]
      · have : j = l.length := by omega
        subst this
        rw [Array.getElem?_setIfInBounds_self_of_lt (by omega)]
        simp
  · have hg2 := run_append_grow (P := Tryz.prog) w 51 ty 5 i0 (.int .u8 0) Tryz.underlying51 hi0 hz0 ⟨g, 0, none⟩ l.length cap (W.bcells l) (by rw [hz1]; simp [W.bcells]) (by
      intro j u hj
      have hj2 : j < l.length := by
        have := List.getElem?_eq_some_iff.1 hj
        obtain ⟨hq, _⟩ := this
        simpa [W.bcells] using hq
      rw [show (⟨g, 0, none⟩ : Addr).add j = ⟨g, j, none⟩ by unfold Addr.add; split <;> simp_all, cell_of_row w g j cs T _ hg, hcell j hj2]
      simpa [W.bcells, hj2] using hj) ⟨b, 0, none⟩ 1 1 [.int .u8 (c.toNat : Int)] (by rw [hz1]; rfl) hnews (by omega) (by omega) (growslice_fits (by omega) (by rw [hz2]; omega))
    have hge := grownCap_ge w (l.length + 1) cap 5
    generalize grownCap w (l.length + 1) cap 5 = cap2 at *
    have hsz : ((W.bcells l).toArray ++ [Value.int .u8 (c.toNat : Int)].toArray ++ Builtin.zeroCells (Value.int .u8 0).cells (cap2 - (l.length + 1))).size = cap2 := by
      rw [Array.size_append, Array.size_append, size_zeroCells]
      simp [W.bcells, Value.cells]
      omega
    refine ⟨_, _, hg2, ⟨w.heap.size, cap2, _, 5, 0, 0, by simp, hB, by simp; omega, heap_alloc_new w.drew _, by omega, Or.inl rfl, ?_⟩, ((Below.refl B w).drew).alloc hB _⟩
    intro j hj
    have hj2 : j < l.length + 1 := by simpa using hj
    rw [Array.getElem?_append_left (by simp [W.bcells]; omega)]
    simp only [List.append_toArray, List.getElem?_toArray]
    rw [show W.bcells l ++ [Value.int .u8 (c.toNat : Int)] = W.bcells (l ++ [c]) by simp [W.bcells]]
    rw [show (W.bcells (l ++ [c]))[j]? = some (.int .u8 ((l ++ [c])[j].toNat : Int)) by
      unfold W.bcells
      rw [List.getElem?_map, List.getElem?_eq_getElem hj]; rfl]
end Go.Proofs.YtjkpopdjmmgbbabGreat.Dg

namespace Go.Proofs.YtjkpopdjmmgbbabGreat.Dg
open Go.RowKit

def zb16 : List UInt8 := List.replicate 16 0
theorem zb16_is : (#[.int .u8 0, .int .u8 0, .int .u8 0, .int .u8 0, .int .u8 0, .int .u8 0, .int .u8 0, .int .u8 0, .int .u8 0, .int .u8 0, .int .u8 0, .int .u8 0, .int .u8 0, .int .u8 0, .int .u8 0, .int .u8 0] : Array Value) = (W.bcells zb16).toArray := by kernel_rfl
theorem setCells_row (q : Nat) (T : TypeId) : ∀ (vs : List Value) (o : Nat) (cs : Array Value) (w : World), w.heap[q]? = some (.cells cs T (0, 0)) → ∃ cs2 : Array Value, (w.setCells q o vs).heap[q]? = some (.cells cs2 T (0, 0)) ∧ cs2.size = cs.size ∧ ∀ j, cs2[j]? = if o ≤ j ∧ j < o + vs.length ∧ j < cs.size then vs[j - o]? else cs[j]?
  | [], o, cs, w, h => ⟨cs, h, rfl, fun j => by rw [if_neg (by simp; omega)]⟩
  | v :: r, o, cs, w, h => by
    obtain ⟨cs2, h1, h2, h3⟩ := setCells_row q T r (o + 1) _ _ (heap_setCell_same w q o cs T v h)
    refine ⟨cs2, h1, by rw [h2]; simp, fun j => ?_⟩
    rw [h3 j]
    simp only [Array.size_setIfInBounds, List.length_cons]
    by_cases hj : j = o
    · subst hj
      rw [if_neg (by omega)]
      by_cases hs : j < cs.size
      · rw [if_pos (by omega), Array.getElem?_setIfInBounds_self_of_lt hs]; simp
      · rw [if_neg (by omega), Array.getElem?_eq_none (by simp; omega), Array.getElem?_eq_none (by omega)]
    · by_cases hin : o + 1 ≤ j ∧ j < o + 1 + r.length ∧ j < cs.size
      · rw [if_pos hin, if_pos (by omega), show j - o = (j - (o + 1)) + 1 by omega]; simp
      · rw [if_neg hin, if_neg (by omega), Array.getElem?_setIfInBounds_ne (by omega)]
/-- 'copy(p[:], all[:])'. -/
theorem print_copy (q g : Nat) (o : List UInt8) (ho : o.length = 32) (w : World) (hq : BB q 60 zb16 w) (hg : BB g 79 o w) :
    ∃ W1, (Builtin.copy_ #[51, 51] 3 #[.slice (some ⟨q, 0, none⟩) 16 16, .slice (some ⟨g, 0, none⟩) 32 32]).run Tryz.prog w = .ok (.int .i64 16) W1 ∧ BB q 60 (o.take 16) W1 ∧
      (∀ x, x ≠ q → W1.heap[x]? = w.heap[x]?) ∧ W1.heap.size = w.heap.size ∧ W1.os = w.os ∧ W1.tape = w.tape ∧ W1.output = w.output := by
  obtain ⟨vs, hvs⟩ : ∃ vs, W.bcells (o.take 16) = vs := ⟨_, rfl⟩
  have hlen : vs.length = 16 := by rw [← hvs]; simp [W.bcells, ho]
  have hl := run_loadCells_list (P := Tryz.prog) (w := w) ⟨g, 0, none⟩ vs (fun j v hv => by
    have hj : j < 16 := by rw [← hlen]; exact (List.getElem?_eq_some_iff.1 hv).1
    rw [show (⟨g, 0, none⟩ : Addr).add j = ⟨g, j, none⟩ by unfold Addr.add; split <;> simp_all, hg.cell j (by omega), ← hv, ← hvs]
    simp [W.bcells, hj, ho])
  have hst := run_storeCells_cells (P := Tryz.prog) q 0 vs 0 w (by
      intro j hj
      rw [show 0 + 0 + j = j by omega, hq.cell j (by show j < 16; omega)]; rfl) (fun j _ => hq.frozen _) (by
      intro v hv
      rw [← hvs] at hv
      unfold W.bcells at hv
      obtain ⟨x, _, rfl⟩ := List.mem_map.1 hv
      rfl)
  obtain ⟨p1, p2, p3, p4, p5⟩ := setCells_same q vs 0 w
  refine ⟨w.setCells q 0 vs, ?_, ?_, p5, p4, p1, p2, p3⟩
  · obtain ⟨i, hi, hz, hsz, _⟩ := info_parts W.Tryz.info5
    have hmin : Nat.min 32 16 = 16 := rfl
    have hl' : (Builtin.firstCells 1 16 (.slice (some ⟨g, 0, none⟩) 32 32)).run Tryz.prog w = .ok vs.toArray w := by
      rw [hlen] at hl
      have e : Builtin.firstCells 1 16 (.slice (some ⟨g, 0, none⟩) 32 32) = loadCells ⟨g, 0, none⟩ 16 := by unfold Builtin.firstCells; rw [Nat.mul_one]
      rw [e]; exact hl
    simp only [Nat.add_zero] at hst
    generalize hva' : vs.toArray = va at hl'
    have hva : va.toList = vs := by rw [← hva']
    simp [Builtin.copy_, run_underlying Tryz.underlying51, Builtin.lenOf, sizeOf, typeInfo, hi, hsz, hl', hva, hst, hmin]
    rfl
  · obtain ⟨cs2, h1, h2, h3⟩ := setCells_row q 60 vs 0 _ w hq
    have : cs2 = (W.bcells (o.take 16)).toArray := by
      apply Array.ext_getElem?
      intro j
      rw [h3 j, hlen]
      by_cases hj : j < 16
      · rw [if_pos ⟨by omega, by omega, by show j < 16; exact hj⟩, hvs]; simp
      · rw [if_neg (by omega), Array.getElem?_eq_none (by show 16 ≤ j; omega), hvs, Array.getElem?_eq_none (by simp; omega)]
    unfold BB
    rw [← this]
    exact h1
end Go.Proofs.YtjkpopdjmmgbbabGreat.Dg

namespace Go.Proofs.YtjkpopdjmmgbbabGreat.Dg
open Go.RowKit

theorem info48 (l : List UInt8) (h : l.length = 16) : (Tryz.prog.info? 60).map (·.size) = some (W.bcells l).toArray.size := by
  rw [show (W.bcells l).toArray.size = l.length by simp [W.bcells], h]; kernel_rfl
theorem size48 (l : List UInt8) (h : l.length = 16) : (W.bcells zb16).toArray.size = (W.bcells l).toArray.size := by
  rw [show (W.bcells l).toArray.size = l.length by simp [W.bcells], h]; rfl
theorem bb_new48 (w : World) (l : List UInt8) : BB w.heap.size 60 l (w.alloc (.cells (W.bcells l).toArray 60)) := bb_new w l 60

set_option maxRecDepth 1000000 in
set_option maxHeartbeats 2000000 in
theorem print_any (l : List UInt8) (hl : l.length ≤ 200000) (w : World) : Calls Tryz.prog 27 #[.string (W.str l)] w fun e w' => e = .returned (.agg (W.bcells ((sumL l).take 16)).toArray) ∧ Below w.heap.size w w' := by
  have KS1 : Hid (∀ (b : Nat) (w : World), b < w.heap.size → w.cell? ⟨b, 0, none⟩ = some (.string (W.str l)) → Calls Tryz.prog 43 #[.slice (some ⟨b, 0, none⟩) 1 1] w fun e w' => e = .returned (.agg (W.bcells (sumL l)).toArray) ∧ Below w.heap.size w w') := Lib.hid (fun b w hb h0 =>
    sum_core _ l hl w (fun w' hbw => by
      have hJ := Tryz.strings_Join b 0 1 [W.str l] ⟨#[]⟩ w' (by
        intro j x hx
        have hc : ∀ k, w'.cell? ⟨b, k, none⟩ = w.cell? ⟨b, k, none⟩ := fun k => World.cell?_of_block (hbw.block b hb)
        match j, hx with
        | 0, hx => simp at hx; subst hx; rw [hc]; exact h0) (Nat.lt_of_lt_of_le hb hbw.size) (by simp) (by simp) (by
          show (Lib.join [l] []).length ≤ _
          simp [Lib.join]; omega)
      have e : Lib.join [l] [] = l := by simp [Lib.join]
      have e2 : (⟨(Lib.join ([W.str l].map (·.data.toList)) (⟨#[]⟩ : ByteArray).data.toList).toArray⟩ : ByteArray) = W.str l := by
        show W.str (Lib.join [l] []) = W.str l
        rw [e]
      rw [e2] at hJ
      exact hJ))
  have hlen := sumL_len l
  generalize sumL l = o at *
  have HI42 := Lib.hid (info42 o hlen)
  have HSZ := Lib.hid (size42 o hlen)
  have HONE := Lib.hid (bcells_one o)
  have HLEN := Lib.hid hlen
  have h16 : (o.take 16).length = 16 := by simp [hlen]
  have HI48 := Lib.hid (info48 _ h16)
  have HSZ48 := Lib.hid (size48 _ h16)
  have HONE48 := Lib.hid (bcells_one (o.take 16))
  clear hl hlen h16
  generalize W.str l = s at *
  go_enter Tryz.func27, Tryz.ntmps27
  go_upto_region 2 with (fail)
  rw [zb16_is]
  have s1 : (w.alloc (.cells (W.bcells zb16).toArray 60)).heap.size = w.heap.size + 1 := by simp
  have b1 := bb_new48 w zb16
  have b2 := bb_new48 (w.alloc (.cells (W.bcells zb16).toArray 60)) zb16
  rw [s1] at b2
  have st := (Below.refl (w.alloc (.cells (W.bcells zb16).toArray 60)).heap.size (w.alloc (.cells (W.bcells zb16).toArray 60))).alloc (Nat.le_refl _) (.cells (W.bcells zb16).toArray 60)
  refine gen_wp (S := fun wz => Hid (BB w.heap.size 60 zb16 wz) ∧ Hid (BB (w.heap.size + 1) 60 zb16 wz) ∧ Hid (Below w.heap.size w wz)) ⟨Lib.hid (b1.later st), Lib.hid b2, Lib.hid (((Below.refl _ _).alloc (Nat.le_refl _) _).alloc (by simp) _)⟩ ?_
  intro W1 H1
  obtain ⟨hA, hP, hB⟩ := H1
  clear s1 b1 b2 st
  go_upto_region 3 with (first
    | (go_at_call 43; ((with_reducible refine (KS1.out _ _ ?_ ?_).mono ?_); (simp [go_sem]); (simp [go_sem]); rintro e w2 ⟨rfl, hb2⟩))
    | (refine wpList_plain rfl fun _ hK => wp_store_row 79 (.tmp 4) (.tmp 7) rfl _ (W.bcells o).toArray rfl rfl 79 (W.bcells zb32).toArray (bb_lit _ zb32_is) HI42.out HSZ.out HONE.out (hK _ _ ?_)))
  rw [zb32_is]
  have hX : Below W1.heap.size W1 w2 := ((Below.refl _ _).alloc (Nat.le_refl _) _).trans (hb2.mono (by simp))
  have st := (Below.refl w2.heap.size w2).alloc (Nat.le_refl _) (.cells (W.bcells zb32).toArray 79)
  have hl1 := (hP.out.later hX).lt
  have hl0 := (hA.out.later hX).lt
  have hA2 := (hA.out.later hX).later st
  have hP2 := (hP.out.later hX).later st
  have hB2 := (hB.out.trans (hX.mono hB.out.size)).trans (st.mono (by have := hB.out.size; have := hX.size; omega))
  have hG2 := setRow_heap _ _ _ (W.bcells o).toArray _ _ (bb_new w2 zb32 79)
  refine gen_wp (S := fun wz => Hid (BB w.heap.size 60 zb16 wz) ∧ Hid (BB (w.heap.size + 1) 60 zb16 wz) ∧ Hid (BB w2.heap.size 79 o wz) ∧ Hid (Below w.heap.size w wz)) ⟨Lib.hid (by unfold BB; rw [setRow_other _ _ _ _ (by omega)]; exact hA2), Lib.hid (by unfold BB; rw [setRow_other _ _ _ _ (by omega)]; exact hP2), Lib.hid hG2, Lib.hid (below_row hB2 (by omega) _)⟩ ?_
  intro W3 H3
  obtain ⟨hA3, hP3, hG3, hB3⟩ := H3
  clear hX st hl1 hl0 hA2 hP2 hB2 hG2 hA hP hB hb2
  generalize w2.heap.size = g at *
  obtain ⟨W4, hcp, r1, r2, r3, r4, r5, r6⟩ := print_copy (w.heap.size + 1) g o HLEN.out W3.drew hP3.out hG3.out
  have hR := Lib.hid ((r2 w.heap.size (by omega)).trans hA3.out)
  have hQ := Lib.hid r1
  have hB4 : Hid (Below w.heap.size w W4) := Lib.hid ⟨r4.trans hB3.out.os, r5.trans hB3.out.tape, r6.trans hB3.out.output, by rw [r3]; exact hB3.out.size, fun b hb => (r2 b (by omega)).trans (hB3.out.block b hb)⟩
  clear r1 r2 r3 r4 r5 r6 hA3 hP3 hG3 hB3
  dsimp only [Act.put]
  go_region_held3 (fun _ => True) (first | exact True.intro) (first | fail)
  simp only [Exit.then]
  apply_assumption
  have HRR := Lib.hid (setRow_heap W4 w.heap.size (W.bcells zb16).toArray (W.bcells (o.take 16)).toArray 60 _ hR.out)
  have HBB := Lib.hid (below_row hB4.out (Nat.le_refl _) (W.bcells (o.take 16)).toArray)
  go_wp2_with (first
    | (refine wpList_load_row rfl 60 (.tmp 3) rfl (w.heap.size + 1) rfl 60 (W.bcells (o.take 16)).toArray (0, 0) _ hQ.out Tryz.underlying60 rfl HI48.out ?_)
    | (refine wpList_plain rfl fun _ hK => wp_store_row 60 (.tmp 2) (.tmp 11) rfl w.heap.size (W.bcells (o.take 16)).toArray rfl rfl 60 (W.bcells zb16).toArray hR.out HI48.out HSZ48.out HONE48.out (hK _ _ ?_)))
  refine bodyPost_ret (v := .agg (W.bcells (o.take 16)).toArray) ?_ rfl ⟨rfl, HBB.out⟩
  exact results_cell_row rfl _ _ w.heap.size 60 (W.bcells (o.take 16)).toArray (0, 0) _ rfl HRR.out Tryz.underlying60 rfl HI48.out
end Go.Proofs.YtjkpopdjmmgbbabGreat.Dg
