/- Walk of digest.Whole.; The plain words of digest.Sum.; Bytes of a sum, copied word by word. -/
import Derived.Test.YtjkpopdjmmgbbabGreatJ04
import Derived.Test.YtjkpopdjmmgbbabGreatJ05
set_option linter.unusedVariables false
set_option linter.unusedSimpArgs false
namespace Go.Proofs.YtjkpopdjmmgbbabGreat.Dg
open Go.RowKit

/-- How many noughts. -/
def nts (n : Nat) : Nat := (64 - (n + 1 + 8) % 64) % 64
/-- What blocks are cut of. -/
def wholeL (l : List UInt8) : List UInt8 := l ++ [128] ++ List.replicate (nts l.length) 0 ++ W.be (8 * l.length) 8
theorem wholeL_len (l : List UInt8) : (wholeL l).length = l.length + 9 + nts l.length := by
  unfold wholeL; simp [W.be_length]; omega
theorem wholeL_64 (l : List UInt8) : (wholeL l).length % 64 = 0 := by
  rw [wholeL_len]; unfold nts; omega

set_option maxRecDepth 1000000 in
set_option maxHeartbeats 2000000 in
theorem whole_any (l : List UInt8) (hl : l.length ≤ 200000) (w : World) : Calls Tryz.prog 55 #[.string (W.str l)] w fun e w' => e = .returned (.string (W.str (wholeL l))) ∧ Below w.heap.size w w' := by
  obtain ⟨n, hn⟩ : ∃ n, l.length = n := ⟨_, rfl⟩
  obtain ⟨z, hz⟩ : ∃ z, nts n = z := ⟨_, rfl⟩
  have hz64 : z < 64 := by rw [← hz]; unfold nts; omega
  obtain ⟨r, hr⟩ : ∃ r, (n + 1 + 8) % 64 = r := ⟨_, rfl⟩
  have hrz : (64 - r) % 64 = z := by rw [← hr, ← hz]; rfl
  have hr64 : r < 64 := by omega
  have KR : Hid (∀ w, Calls Tryz.prog 66 #[.string ⟨#[0]⟩, .int .i64 (z : Int)] w fun e w' => e = .returned (.string (W.str (List.replicate z 0))) ∧ Below w.heap.size w w') := Lib.hid (fun w => by
    have := Tryz.strings_Repeat ⟨#[0]⟩ z w (by omega) (by show 1 * z ≤ _; omega)
    have e : Lib.repeatL [0] z = List.replicate z 0 := by
      have := Lib.repeatL_replicate 0 1 z
      rw [Nat.mul_one] at this
      exact this
    rw [show (⟨#[0]⟩ : ByteArray).data.toList = [0] from rfl, e] at this
    exact this)
  have KP : Hid (∀ w, Calls Tryz.prog 44 #[.int .u64 ((8 * n : Nat) : Int), .int .i64 8] w fun e w' => e = .returned (.string (W.str (W.be (8 * n) 8))) ∧ Below w.heap.size w w') := Lib.hid (fun w => W.put_any (8 * n) 8 (by omega) w)
  have A1 : ∀ W0, (Op.stringOp .add (W.str l) ⟨#[128]⟩).run Tryz.prog W0 = .ok (.string (W.str (l ++ [128]))) W0 := fun W0 => W.run_str_add l [128] (by simp; omega) W0
  have A2 : ∀ W0, (Op.stringOp .add (W.str (l ++ [128])) (W.str (List.replicate z 0))).run Tryz.prog W0 = .ok (.string (W.str (l ++ [128] ++ List.replicate z 0))) W0 := fun W0 => W.run_str_add _ _ (by simp; omega) W0
  have A3 : ∀ W0, (Op.stringOp .add (W.str (l ++ [128] ++ List.replicate z 0)) (W.str (W.be (8 * n) 8))).run Tryz.prog W0 = .ok (.string (W.str (wholeL l))) W0 := fun W0 => by
    rw [W.run_str_add _ _ (by simp [W.be_length]; omega) W0]
    unfold wholeL; rw [hn, hz]
  have hsz : (W.str l).size = n := by rw [W.size_str]; exact hn
  have e1 : ((n : Int) + 1 + 8) % 64 = (r : Int) := by omega
  have e2 : ((64 : Int) - r) % 64 = (z : Int) := by omega
  have e3 : (8 : Int) * n = ((8 * n : Nat) : Int) := by omega
  have e4 : IntKind.u64.wrap ((8 * n : Nat) : Int) = ((8 * n : Nat) : Int) := IntWalk.u64_in _ ⟨by omega, by omega⟩
  have hn2 : (n : Int) ≤ 200000 := by omega
  have hn0 : (0 : Int) ≤ n := by omega
  have hr2 : (r : Int) < 64 := by omega
  have hr0 : (0 : Int) ≤ r := by omega
  clear hl hz hr hrz hn hz64 hr64
  generalize W.str (wholeL l) = s3 at *
  generalize W.str (l ++ [128] ++ List.replicate z 0) = s2 at *
  generalize W.str (l ++ [128]) = s1 at *
  generalize W.str (List.replicate z 0) = zs at *
  generalize W.str (W.be (8 * n) 8) = ps at *
  generalize W.str l = s at *
  generalize 8 * n = m at *
  go_enter Tryz.func55, Tryz.ntmps55
  go_wp2_with (first
    | (go_at_call 66; go_must (refine (KR.out _).mono ?_); rintro e w1 ⟨rfl, hb1⟩)
    | (go_at_call 44; go_must (refine (KP.out _).mono ?_); rintro e w2 ⟨rfl, hb2⟩))
  go_ret
  exact ⟨rfl, hb1.trans (hb2.mono hb1.size)⟩
end Go.Proofs.YtjkpopdjmmgbbabGreat.Dg

namespace Go.Proofs.YtjkpopdjmmgbbabGreat.Dg
open Go.RowKit

def addL (h v : List Nat) : List Nat := List.zipWith (fun a b => (a + b) % 4294967296) h v
/-- What is there behind so many blocks. -/
def hsn (t : ByteArray) : Nat → List Nat
  | 0 => HS
  | k + 1 => addL (hsn t k) (rds KS (sch (t.extract (64 * k) (64 * k + 64)) 64) (hsn t k))
def bytes4 (h : List Nat) : List UInt8 := (h.map fun x => W.be x 4).flatten
/-- The sum of a text. -/
def sumL (l : List UInt8) : List UInt8 := bytes4 (hsn (W.str (wholeL l)) ((wholeL l).length / 64))

theorem small_HS : HS.length = 8 ∧ small HS := ⟨rfl, by unfold small; decide +kernel⟩
theorem small_KS : KS.length = 64 ∧ small KS := ⟨rfl, by unfold small; decide +kernel⟩
theorem addL_ok (h v : List Nat) (h1 : h.length = 8) (h2 : v.length = 8) : (addL h v).length = 8 ∧ small (addL h v) := by
  refine ⟨by simp [addL, h1, h2], ?_⟩
  intro x hx
  obtain ⟨i, hi, rfl⟩ := List.getElem_of_mem hx
  simp only [addL, List.getElem_zipWith]
  omega
theorem rds_ok : ∀ (ks ws l : List Nat), l.length = 8 → small l → (rds ks ws l).length = 8 ∧ small (rds ks ws l)
  | [], _, l, h, hs => ⟨h, hs⟩
  | _ :: _, [], l, h, hs => ⟨h, hs⟩
  | k :: ks, w :: ws, l, h, hs => by
    have := stp_ok k w l h hs
    exact rds_ok ks ws _ this.1 this.2
theorem hsn_ok (t : ByteArray) : ∀ k, (hsn t k).length = 8 ∧ small (hsn t k)
  | 0 => small_HS
  | k + 1 => by
    have h := hsn_ok t k
    exact addL_ok _ _ h.1 (rds_ok _ _ _ h.1 h.2).1
/-- The first j words summed. -/
def mixL (h v : List Nat) (j : Nat) : List Nat := (addL h v).take j ++ h.drop j
theorem mixL_len (h v : List Nat) (h1 : h.length = 8) (h2 : v.length = 8) (j : Nat) (hj : j ≤ 8) : (mixL h v j).length = 8 := by
  have := (addL_ok h v h1 h2).1
  unfold mixL; simp; omega
theorem mixL_0 (h v : List Nat) : mixL h v 0 = h := by simp [mixL]
theorem mixL_8 (h v : List Nat) (h1 : h.length = 8) (h2 : v.length = 8) : mixL h v 8 = addL h v := by
  have := (addL_ok h v h1 h2).1
  unfold mixL; rw [List.take_of_length_le (by omega), List.drop_of_length_le (by omega), List.append_nil]
theorem mixL_get (h v : List Nat) (h1 : h.length = 8) (h2 : v.length = 8) (j : Nat) (hj : j < 8) : (mixL h v j)[j]'(by rw [mixL_len h v h1 h2 j (by omega)]; exact hj) = h[j] := by
  have := (addL_ok h v h1 h2).1
  unfold mixL
  rw [List.getElem_append_right (by simp; omega)]
  simp
  congr 1
  omega
theorem mixL_set (h v : List Nat) (h1 : h.length = 8) (h2 : v.length = 8) (j : Nat) (hj : j < 8) : (mixL h v j).set j ((h[j] + v[j]) % 4294967296) = mixL h v (j + 1) := by
  have h3 := (addL_ok h v h1 h2).1
  unfold mixL
  rw [List.set_append_right _ _ (by simp; omega)]
  rw [show j - ((addL h v).take j).length = 0 by simp; omega]
  rw [List.drop_eq_getElem_cons (by omega), List.set_cons_zero]
  rw [List.take_succ_eq_append_getElem (by omega), List.append_assoc]
  simp [addL]
/-- The first words as bytes, then noughts. -/
def outL (h : List Nat) (j : Nat) : List UInt8 := bytes4 (h.take j) ++ List.replicate (32 - 4 * j) 0
theorem bytes4_len : ∀ h : List Nat, (bytes4 h).length = 4 * h.length
  | [] => rfl
  | x :: h => by
    have := bytes4_len h
    unfold bytes4 at this ⊢
    simp [W.be_length] at this ⊢; omega
theorem outL_len (h : List Nat) (h1 : h.length = 8) (j : Nat) (hj : j ≤ 8) : (outL h j).length = 32 := by
  unfold outL; rw [List.length_append, bytes4_len]; simp; omega
theorem outL_8 (h : List Nat) (h1 : h.length = 8) : outL h 8 = bytes4 h := by
  unfold outL; rw [List.take_of_length_le (by omega)]; simp
theorem sumL_len (l : List UInt8) : (sumL l).length = 32 := by
  unfold sumL; rw [bytes4_len, (hsn_ok _ _).1]
theorem run_index_u32 (V : List Nat) (q : Nat) (hq : q < V.length) (hV : V.length = 8) (w : World) : (Instr.index 96 (.agg (u32c V)) (.int .i64 (q : Int))).run Tryz.prog w = .ok (.int .u32 (V[q] : Int)) w := by
  obtain ⟨i, hi, hz, hsz, _⟩ := info_parts (show (Tryz.prog.info? 93).map (fun i => (i.zero, i.size, i.bytes)) = some (some (.int .u32 0), 1, 4) by kernel_rfl)
  have hg := u32c_get V q hq
  simp [Instr.index, run_underlying Tryz.underlying96, asIntOf, part, isAgg, run_underlying Tryz.underlying93, sizeOf, typeInfo, hi, hsz, hg]
  intro h8
  omega
end Go.Proofs.YtjkpopdjmmgbbabGreat.Dg

namespace Go.Proofs.YtjkpopdjmmgbbabGreat.Dg
open Go.RowKit

/-- A block that holds bytes. -/
def BB (g : Nat) (T : TypeId) (l : List UInt8) (w : World) : Prop := w.heap[g]? = some (.cells (W.bcells l).toArray T (0, 0))
section
variable {g : Nat} {T : TypeId} {l : List UInt8} {w w' : World}
theorem BB.lt (h : BB g T l w) : g < w.heap.size := lt_of_some h
theorem BB.later (h : BB g T l w) (hb : Below w.heap.size w w') : BB g T l w' := (hb.block _ h.lt).trans h
theorem BB.cell (h : BB g T l w) (j : Nat) (hj : j < l.length) : w.cell? ⟨g, j, none⟩ = some (.int .u8 (l[j].toNat : Int)) := by
  rw [cell_of_row w g j _ _ _ h]; simp [W.bcells, hj]
theorem BB.frozen (h : BB g T l w) (j : Nat) : w.frozen? ⟨g, j, none⟩ = false := frozen_of_row w g j _ _ h
end
theorem bb_new (w : World) (l : List UInt8) (T : TypeId) : BB w.heap.size T l (w.alloc (.cells (W.bcells l).toArray T)) := heap_alloc_new w _
def zb32 : List UInt8 := List.replicate 32 0
set_option maxRecDepth 100000 in
theorem zb32_is : (#[.int .u8 0, .int .u8 0, .int .u8 0, .int .u8 0, .int .u8 0, .int .u8 0, .int .u8 0, .int .u8 0, .int .u8 0, .int .u8 0, .int .u8 0, .int .u8 0, .int .u8 0, .int .u8 0, .int .u8 0, .int .u8 0, .int .u8 0, .int .u8 0, .int .u8 0, .int .u8 0, .int .u8 0, .int .u8 0, .int .u8 0, .int .u8 0, .int .u8 0, .int .u8 0, .int .u8 0, .int .u8 0, .int .u8 0, .int .u8 0, .int .u8 0, .int .u8 0] : Array Value) = (W.bcells zb32).toArray := by kernel_rfl

theorem BB.put {g : Nat} {T : TypeId} {l : List UInt8} {w : World} (h : BB g T l w) (j : Nat) (x : UInt8) : BB g T (l.set j x) (w.setCell ⟨g, j, none⟩ (.int .u8 (x.toNat : Int))) := by
  have := heap_setCell_same w g j _ _ (.int .u8 (x.toNat : Int)) h
  rw [show (W.bcells l).toArray.setIfInBounds j (.int .u8 (x.toNat : Int)) = (W.bcells (l.set j x)).toArray by apply Array.ext'; simp [W.bcells, List.map_set]] at this
  exact this
/-- What holds while the sum's bytes are laid. -/
def OW (w : World) (q : Nat) (o : List UInt8) (wr : World) : Prop := BB w.heap.size 79 zb32 wr ∧ BB q 79 o wr ∧ w.heap.size < q ∧ Below w.heap.size w wr
section
variable {w wr w1 : World} {q : Nat} {o : List UInt8}
theorem OW.later (hs : OW w q o wr) (hb : Below wr.heap.size wr w1) : OW w q o w1 := ⟨hs.1.later hb, hs.2.1.later hb, hs.2.2.1, hs.2.2.2.trans (hb.mono hs.2.2.2.size)⟩
theorem OW.drew (hs : OW w q o wr) : OW w q o wr.drew := ⟨hs.1, hs.2.1, hs.2.2.1, ⟨hs.2.2.2.os, hs.2.2.2.tape, hs.2.2.2.output, hs.2.2.2.size, hs.2.2.2.block⟩⟩
theorem OW.undrew (hs : OW w q o wr.drew) : OW w q o wr := ⟨hs.1, hs.2.1, hs.2.2.1, ⟨hs.2.2.2.os, hs.2.2.2.tape, hs.2.2.2.output, hs.2.2.2.size, hs.2.2.2.block⟩⟩
theorem OW.put (hs : OW w q o wr) (j : Nat) (x : UInt8) : OW w q (o.set j x) (wr.setCell ⟨q, j, none⟩ (.int .u8 (x.toNat : Int))) :=
  ⟨(heap_setCell_other wr ⟨q, j, none⟩ w.heap.size _ (by have := hs.2.2.1; show w.heap.size ≠ q; omega)).trans hs.1, hs.2.1.put j x, hs.2.2.1, hs.2.2.2.setCell (by have := hs.2.2.1; show w.heap.size ≤ q; omega) _⟩
end
theorem outL_0 (h : List Nat) : outL h 0 = zb32 := rfl
/-- Four bytes more. -/
theorem outL_step (h : List Nat) (hl : h.length = 8) (j : Nat) (hj : j < 8) (c0 c1 c2 c3 : UInt8) (hc : W.be h[j] 4 = [c0, c1, c2, c3]) :
    ((((outL h j).set (4 * j) c0).set (4 * j + 1) c1).set (4 * j + 1 + 1) c2).set (4 * j + 1 + 1 + 1) c3 = outL h (j + 1) ∧ ((((outL h (j + 1)).set (4 * j) c0).set (4 * j + 1) c1).set (4 * j + 1 + 1) c2).set (4 * j + 1 + 1 + 1) c3 = outL h (j + 1) := by
  have h1 : bytes4 (h.take (j + 1)) = bytes4 (h.take j) ++ [c0, c1, c2, c3] := by
    rw [List.take_succ_eq_append_getElem (by omega)]
    unfold bytes4
    simp only [List.map_append, List.map_cons, List.map_nil, List.flatten_append, List.flatten_cons, List.flatten_nil, List.append_nil, hc]
  have hL : (bytes4 (h.take j)).length = 4 * j := by rw [bytes4_len, List.length_take]; omega
  have gen : ∀ (b r : List UInt8) (y0 y1 y2 y3 : UInt8), b.length = 4 * j → ((((b ++ ([y0, y1, y2, y3] ++ r)).set (4 * j) c0).set (4 * j + 1) c1).set (4 * j + 1 + 1) c2).set (4 * j + 1 + 1 + 1) c3 = b ++ ([c0, c1, c2, c3] ++ r) := by
    intro b r y0 y1 y2 y3 hb
    rw [List.set_append_right _ _ (by omega), List.set_append_right _ _ (by omega), List.set_append_right _ _ (by omega), List.set_append_right _ _ (by omega)]
    rw [show 4 * j - b.length = 0 by omega, show 4 * j + 1 - b.length = 1 by omega, show 4 * j + 1 + 1 - b.length = 2 by omega, show 4 * j + 1 + 1 + 1 - b.length = 3 by omega]
    rfl
  have e1 : outL h j = bytes4 (h.take j) ++ ([0, 0, 0, 0] ++ List.replicate (32 - 4 * (j + 1)) 0) := by
    unfold outL
    rw [show 32 - 4 * j = 4 + (32 - 4 * (j + 1)) by omega, ← List.replicate_append_replicate]; rfl
  have e2 : outL h (j + 1) = bytes4 (h.take j) ++ ([c0, c1, c2, c3] ++ List.replicate (32 - 4 * (j + 1)) 0) := by
    unfold outL
    rw [h1, List.append_assoc]
  refine ⟨?_, ?_⟩
  · rw [e1, e2]; exact gen _ _ _ _ _ _ hL
  · rw [e2]; exact gen _ _ _ _ _ _ hL
theorem first_four (s : ByteArray) (c0 c1 c2 c3 : UInt8) (hs : s = ⟨#[c0, c1, c2, c3]⟩) (w : World) : (Builtin.firstCells 1 4 (.string s)).run Tryz.prog w = .ok (W.bcells [c0, c1, c2, c3]).toArray w := by
  subst hs
  simp [Builtin.firstCells, W.bcells, ByteArray.data_extract]
/-- 'copy(s[4*j:], ..)' of four bytes. -/
theorem out_copy (h : List Nat) (hl : h.length = 8) (j : Nat) (hj : j < 8) (w : World) (q : Nat) : ∃ F : World → World, ∀ wz, (OW w q (outL h j) wz ∨ OW w q (outL h (j + 1)) wz) →
    (Builtin.copy_ #[51, 9] 3 #[.slice (some ⟨q, 4 * j, none⟩) (32 - 4 * j) (32 - 4 * j), .string (W.str (W.be h[j] 4))]).run Tryz.prog wz = .ok (.int .i64 4) (F wz) ∧ OW w q (outL h (j + 1)) (F wz) := by
  obtain ⟨c0, c1, c2, c3, hc⟩ : ∃ c0 c1 c2 c3, W.be h[j] 4 = [c0, c1, c2, c3] := ⟨_, _, _, _, rfl⟩
  obtain ⟨st1, st2⟩ := outL_step h hl j hj c0 c1 c2 c3 hc
  refine ⟨fun wz => wz.setCells q (4 * j) (W.bcells [c0, c1, c2, c3]), ?_⟩
  intro wz hz
  obtain ⟨o, ho, hset, hlen⟩ : ∃ o, OW w q o wz ∧ (((o.set (4 * j) c0).set (4 * j + 1) c1).set (4 * j + 1 + 1) c2).set (4 * j + 1 + 1 + 1) c3 = outL h (j + 1) ∧ o.length = 32 := by
    rcases hz with hz | hz
    · exact ⟨_, hz, st1, outL_len h hl j (by omega)⟩
    · exact ⟨_, hz, st2, outL_len h hl (j + 1) (by omega)⟩
  have hB := ho.2.1
  have hst := run_storeCells_cells (P := Tryz.prog) q (4 * j) (W.bcells [c0, c1, c2, c3]) 0 wz (by
      intro i hi
      have hi4 : i < 4 := hi
      rw [hB.cell (4 * j + 0 + i) (by omega)]; rfl) (fun i _ => hB.frozen _) (by
      intro v hv
      simp [W.bcells] at hv
      rcases hv with rfl | rfl | rfl | rfl <;> rfl)
  have k1 := first_four (W.str (W.be h[j] 4)) c0 c1 c2 c3 (by rw [hc]; rfl) wz
  have hsz4 : (W.str (W.be h[j] 4)).size = 4 := by rw [W.size_str, hc]; rfl
  refine ⟨?_, ?_⟩
  · obtain ⟨i, hi, hz0, hsz, _⟩ := info_parts (show (Tryz.prog.info? 5).map (fun i => (i.zero, i.size, i.bytes)) = some (some (.int .u8 0), 1, 1) by kernel_rfl)
    have hmin : Nat.min 4 (32 - 4 * j) = 4 := Nat.min_eq_left (by omega)
    generalize W.str (W.be h[j] 4) = s at *
    generalize W.bcells [c0, c1, c2, c3] = vs at *
    simp only [Nat.add_zero] at hst
    simp [Builtin.copy_, run_underlying Tryz.underlying51, Builtin.lenOf, sizeOf, typeInfo, hi, hsz, hsz4, k1, hst, hmin]
    rfl
  · have := (((ho.put (4 * j) c0).put (4 * j + 1) c1).put (4 * j + 1 + 1) c2).put (4 * j + 1 + 1 + 1) c3
    rw [hset] at this
    exact this
end Go.Proofs.YtjkpopdjmmgbbabGreat.Dg
