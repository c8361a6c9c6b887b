/- Walk of digest.Whole.; The plain words of digest.Sum.; Bytes of a sum, copied word by word.; Walk of digest.Sum. -/
import Derived.Test.YtpcmmejlmhbcdaaGreatJ21
import Derived.Deep.MidRow
set_option linter.unusedVariables false
set_option linter.unusedSimpArgs false
namespace Go.Proofs.YtpcmmejlmhbcdaaGreat.Dg
open Go.RowKit

/-- How many noughts. -/
def nts (n : Nat) : Nat := (64 - (n + 1 + 8) % 64) % 64
/-- What blocks are cut of. -/
def wholeL (l : List UInt8) : List UInt8 := l ++ [128] ++ List.replicate (nts l.length) 0 ++ W.be (8 * l.length) 8
theorem wholeL_len (l : List UInt8) : (wholeL l).length = l.length + 9 + nts l.length := by
  unfold wholeL; simp [W.be_length]; omega
theorem wholeL_64 (l : List UInt8) : (wholeL l).length % 64 = 0 := by
  rw [wholeL_len]; unfold nts; omega

set_option maxRecDepth 1000000 in
set_option maxHeartbeats 2000000 in
theorem whole_any (l : List UInt8) (hl : l.length ≤ 200000) (w : World) : Calls Tryz.prog 119 #[.string (W.str l)] w fun e w' => e = .returned (.string (W.str (wholeL l))) ∧ Below w.heap.size w w' := by
  obtain ⟨n, hn⟩ : ∃ n, l.length = n := ⟨_, rfl⟩
  obtain ⟨z, hz⟩ : ∃ z, nts n = z := ⟨_, rfl⟩
  have hz64 : z < 64 := by rw [← hz]; unfold nts; omega
  obtain ⟨r, hr⟩ : ∃ r, (n + 1 + 8) % 64 = r := ⟨_, rfl⟩
  have hrz : (64 - r) % 64 = z := by rw [← hr, ← hz]; rfl
  have hr64 : r < 64 := by omega
  have KR : Hid (∀ w, Calls Tryz.prog 129 #[.string ⟨#[0]⟩, .int .i64 (z : Int)] w fun e w' => e = .returned (.string (W.str (List.replicate z 0))) ∧ Below w.heap.size w w') := Lib.hid (fun w => by
    have := Tryz.strings_Repeat ⟨#[0]⟩ z w (by omega) (by show 1 * z ≤ _; omega)
    have e : Lib.repeatL [0] z = List.replicate z 0 := by
      have := Lib.repeatL_replicate 0 1 z
      rw [Nat.mul_one] at this
      exact this
    rw [show (⟨#[0]⟩ : ByteArray).data.toList = [0] from rfl, e] at this
    exact this)
  have KP : Hid (∀ w, Calls Tryz.prog 93 #[.int .u64 ((8 * n : Nat) : Int), .int .i64 8] w fun e w' => e = .returned (.string (W.str (W.be (8 * n) 8))) ∧ Below w.heap.size w w') := Lib.hid (fun w => W.put_any (8 * n) 8 (by omega) w)
  have A1 : ∀ W0, (Op.stringOp .add (W.str l) ⟨#[128]⟩).run Tryz.prog W0 = .ok (.string (W.str (l ++ [128]))) W0 := fun W0 => W.run_str_add l [128] (by simp; omega) W0
  have A2 : ∀ W0, (Op.stringOp .add (W.str (l ++ [128])) (W.str (List.replicate z 0))).run Tryz.prog W0 = .ok (.string (W.str (l ++ [128] ++ List.replicate z 0))) W0 := fun W0 => W.run_str_add _ _ (by simp; omega) W0
  have A3 : ∀ W0, (Op.stringOp .add (W.str (l ++ [128] ++ List.replicate z 0)) (W.str (W.be (8 * n) 8))).run Tryz.prog W0 = .ok (.string (W.str (wholeL l))) W0 := fun W0 => by
    rw [W.run_str_add _ _ (by simp [W.be_length]; omega) W0]
    unfold wholeL; rw [hn, hz]
  have hsz : (W.str l).size = n := by rw [W.size_str]; exact hn
  have e1 : ((n : Int) + 1 + 8) % 64 = (r : Int) := by omega
  have e2 : ((64 : Int) - r) % 64 = (z : Int) := by omega
  have e3 : (8 : Int) * n = ((8 * n : Nat) : Int) := by omega
  have e4 : IntKind.u64.wrap ((8 * n : Nat) : Int) = ((8 * n : Nat) : Int) := IntWalk.u64_in _ ⟨by omega, by omega⟩
  have hn2 : (n : Int) ≤ 200000 := by omega
  have hn0 : (0 : Int) ≤ n := by omega
  have hr2 : (r : Int) < 64 := by omega
  have hr0 : (0 : Int) ≤ r := by omega
  clear hl hz hr hrz hn hz64 hr64
  generalize W.str (wholeL l) = s3 at *
  generalize W.str (l ++ [128] ++ List.replicate z 0) = s2 at *
  generalize W.str (l ++ [128]) = s1 at *
  generalize W.str (List.replicate z 0) = zs at *
  generalize W.str (W.be (8 * n) 8) = ps at *
  generalize W.str l = s at *
  generalize 8 * n = m at *
  go_enter Tryz.func119, Tryz.ntmps119
  go_wp2_with (first
    | (go_at_call 129; go_must (refine (KR.out _).mono ?_); rintro e w1 ⟨rfl, hb1⟩)
    | (go_at_call 93; go_must (refine (KP.out _).mono ?_); rintro e w2 ⟨rfl, hb2⟩))
  go_ret
  exact ⟨rfl, hb1.trans (hb2.mono hb1.size)⟩
end Go.Proofs.YtpcmmejlmhbcdaaGreat.Dg

namespace Go.Proofs.YtpcmmejlmhbcdaaGreat.Dg
open Go.RowKit

def addL (h v : List Nat) : List Nat := List.zipWith (fun a b => (a + b) % 4294967296) h v
/-- What is there behind so many blocks. -/
def hsn (t : ByteArray) : Nat → List Nat
  | 0 => HS
  | k + 1 => addL (hsn t k) (rds KS (sch (t.extract (64 * k) (64 * k + 64)) 64) (hsn t k))
def bytes4 (h : List Nat) : List UInt8 := (h.map fun x => W.be x 4).flatten
/-- The sum of a text. -/
def sumL (l : List UInt8) : List UInt8 := bytes4 (hsn (W.str (wholeL l)) ((wholeL l).length / 64))

theorem small_HS : HS.length = 8 ∧ small HS := ⟨rfl, by unfold small; decide +kernel⟩
theorem small_KS : KS.length = 64 ∧ small KS := ⟨rfl, by unfold small; decide +kernel⟩
theorem addL_ok (h v : List Nat) (h1 : h.length = 8) (h2 : v.length = 8) : (addL h v).length = 8 ∧ small (addL h v) := by
  refine ⟨by simp [addL, h1, h2], ?_⟩
  intro x hx
  obtain ⟨i, hi, rfl⟩ := List.getElem_of_mem hx
  simp only [addL, List.getElem_zipWith]
  omega
theorem rds_ok : ∀ (ks ws l : List Nat), l.length = 8 → small l → (rds ks ws l).length = 8 ∧ small (rds ks ws l)
  | [], _, l, h, hs => ⟨h, hs⟩
  | _ :: _, [], l, h, hs => ⟨h, hs⟩
  | k :: ks, w :: ws, l, h, hs => by
    have := stp_ok k w l h hs
    exact rds_ok ks ws _ this.1 this.2
theorem hsn_ok (t : ByteArray) : ∀ k, (hsn t k).length = 8 ∧ small (hsn t k)
  | 0 => small_HS
  | k + 1 => by
    have h := hsn_ok t k
    exact addL_ok _ _ h.1 (rds_ok _ _ _ h.1 h.2).1
/-- The first j words summed. -/
def mixL (h v : List Nat) (j : Nat) : List Nat := (addL h v).take j ++ h.drop j
theorem mixL_len (h v : List Nat) (h1 : h.length = 8) (h2 : v.length = 8) (j : Nat) (hj : j ≤ 8) : (mixL h v j).length = 8 := by
  have := (addL_ok h v h1 h2).1
  unfold mixL; simp; omega
theorem mixL_0 (h v : List Nat) : mixL h v 0 = h := by simp [mixL]
theorem mixL_8 (h v : List Nat) (h1 : h.length = 8) (h2 : v.length = 8) : mixL h v 8 = addL h v := by
  have := (addL_ok h v h1 h2).1
  unfold mixL; rw [List.take_of_length_le (by omega), List.drop_of_length_le (by omega), List.append_nil]
theorem mixL_get (h v : List Nat) (h1 : h.length = 8) (h2 : v.length = 8) (j : Nat) (hj : j < 8) : (mixL h v j)[j]'(by rw [mixL_len h v h1 h2 j (by omega)]; exact hj) = h[j] := by
  have := (addL_ok h v h1 h2).1
  unfold mixL
  rw [List.getElem_append_right (by simp; omega)]
  simp
  congr 1
  omega
theorem mixL_set (h v : List Nat) (h1 : h.length = 8) (h2 : v.length = 8) (j : Nat) (hj : j < 8) : (mixL h v j).set j ((h[j] + v[j]) % 4294967296) = mixL h v (j + 1) := by
  have h3 := (addL_ok h v h1 h2).1
  unfold mixL
  rw [List.set_append_right _ _ (by simp; omega)]
  rw [show j - ((addL h v).take j).length = 0 by simp; omega]
  rw [List.drop_eq_getElem_cons (by omega), List.set_cons_zero]
  rw [List.take_succ_eq_append_getElem (by omega), List.append_assoc]
  simp [addL]
/-- The first words as bytes, then noughts. -/
def outL (h : List Nat) (j : Nat) : List UInt8 := bytes4 (h.take j) ++ List.replicate (32 - 4 * j) 0
theorem bytes4_len : ∀ h : List Nat, (bytes4 h).length = 4 * h.length
  | [] => rfl
  | x :: h => by
    have := bytes4_len h
    unfold bytes4 at this ⊢
    simp [W.be_length] at this ⊢; omega
theorem outL_len (h : List Nat) (h1 : h.length = 8) (j : Nat) (hj : j ≤ 8) : (outL h j).length = 32 := by
  unfold outL; rw [List.length_append, bytes4_len]; simp; omega
theorem outL_8 (h : List Nat) (h1 : h.length = 8) : outL h 8 = bytes4 h := by
  unfold outL; rw [List.take_of_length_le (by omega)]; simp
theorem sumL_len (l : List UInt8) : (sumL l).length = 32 := by
  unfold sumL; rw [bytes4_len, (hsn_ok _ _).1]
theorem run_index_u32 (V : List Nat) (q : Nat) (hq : q < V.length) (hV : V.length = 8) (w : World) : (Instr.index 178 (.agg (u32c V)) (.int .i64 (q : Int))).run Tryz.prog w = .ok (.int .u32 (V[q] : Int)) w := by
  obtain ⟨i, hi, hz, hsz, _⟩ := info_parts (show (Tryz.prog.info? 175).map (fun i => (i.zero, i.size, i.bytes)) = some (some (.int .u32 0), 1, 4) by kernel_rfl)
  have hg := u32c_get V q hq
  simp [Instr.index, run_underlying Tryz.underlying178, asIntOf, part, isAgg, run_underlying Tryz.underlying175, sizeOf, typeInfo, hi, hsz, hg]
  intro h8
  omega
end Go.Proofs.YtpcmmejlmhbcdaaGreat.Dg

namespace Go.Proofs.YtpcmmejlmhbcdaaGreat.Dg
open Go.RowKit

/-- A block that holds bytes. -/
def BB (g : Nat) (T : TypeId) (l : List UInt8) (w : World) : Prop := w.heap[g]? = some (.cells (W.bcells l).toArray T (0, 0))
section
variable {g : Nat} {T : TypeId} {l : List UInt8} {w w' : World}
theorem BB.lt (h : BB g T l w) : g < w.heap.size := lt_of_some h
theorem BB.later (h : BB g T l w) (hb : Below w.heap.size w w') : BB g T l w' := (hb.block _ h.lt).trans h
theorem BB.cell (h : BB g T l w) (j : Nat) (hj : j < l.length) : w.cell? ⟨g, j, none⟩ = some (.int .u8 (l[j].toNat : Int)) := by
  rw [cell_of_row w g j _ _ _ h]; simp [W.bcells, hj]
theorem BB.frozen (h : BB g T l w) (j : Nat) : w.frozen? ⟨g, j, none⟩ = false := frozen_of_row w g j _ _ h
end
theorem bb_new (w : World) (l : List UInt8) (T : TypeId) : BB w.heap.size T l (w.alloc (.cells (W.bcells l).toArray T)) := heap_alloc_new w _
def zb32 : List UInt8 := List.replicate 32 0
set_option maxRecDepth 100000 in
theorem zb32_is : (#[.int .u8 0, .int .u8 0, .int .u8 0, .int .u8 0, .int .u8 0, .int .u8 0, .int .u8 0, .int .u8 0, .int .u8 0, .int .u8 0, .int .u8 0, .int .u8 0, .int .u8 0, .int .u8 0, .int .u8 0, .int .u8 0, .int .u8 0, .int .u8 0, .int .u8 0, .int .u8 0, .int .u8 0, .int .u8 0, .int .u8 0, .int .u8 0, .int .u8 0, .int .u8 0, .int .u8 0, .int .u8 0, .int .u8 0, .int .u8 0, .int .u8 0, .int .u8 0] : Array Value) = (W.bcells zb32).toArray := by kernel_rfl

theorem BB.put {g : Nat} {T : TypeId} {l : List UInt8} {w : World} (h : BB g T l w) (j : Nat) (x : UInt8) : BB g T (l.set j x) (w.setCell ⟨g, j, none⟩ (.int .u8 (x.toNat : Int))) := by
  have := heap_setCell_same w g j _ _ (.int .u8 (x.toNat : Int)) h
  rw [show (W.bcells l).toArray.setIfInBounds j (.int .u8 (x.toNat : Int)) = (W.bcells (l.set j x)).toArray by apply Array.ext'; simp [W.bcells, List.map_set]] at this
  exact this
/-- What holds while the sum's bytes are laid. -/
def OW (w : World) (q : Nat) (o : List UInt8) (wr : World) : Prop := BB w.heap.size 167 zb32 wr ∧ BB q 167 o wr ∧ w.heap.size < q ∧ Below w.heap.size w wr
section
variable {w wr w1 : World} {q : Nat} {o : List UInt8}
theorem OW.later (hs : OW w q o wr) (hb : Below wr.heap.size wr w1) : OW w q o w1 := ⟨hs.1.later hb, hs.2.1.later hb, hs.2.2.1, hs.2.2.2.trans (hb.mono hs.2.2.2.size)⟩
theorem OW.drew (hs : OW w q o wr) : OW w q o wr.drew := ⟨hs.1, hs.2.1, hs.2.2.1, ⟨hs.2.2.2.os, hs.2.2.2.tape, hs.2.2.2.output, hs.2.2.2.size, hs.2.2.2.block⟩⟩
theorem OW.undrew (hs : OW w q o wr.drew) : OW w q o wr := ⟨hs.1, hs.2.1, hs.2.2.1, ⟨hs.2.2.2.os, hs.2.2.2.tape, hs.2.2.2.output, hs.2.2.2.size, hs.2.2.2.block⟩⟩
theorem OW.put (hs : OW w q o wr) (j : Nat) (x : UInt8) : OW w q (o.set j x) (wr.setCell ⟨q, j, none⟩ (.int .u8 (x.toNat : Int))) :=
  ⟨(heap_setCell_other wr ⟨q, j, none⟩ w.heap.size _ (by have := hs.2.2.1; show w.heap.size ≠ q; omega)).trans hs.1, hs.2.1.put j x, hs.2.2.1, hs.2.2.2.setCell (by have := hs.2.2.1; show w.heap.size ≤ q; omega) _⟩
end
theorem outL_0 (h : List Nat) : outL h 0 = zb32 := rfl
/-- Four bytes more. -/
theorem outL_step (h : List Nat) (hl : h.length = 8) (j : Nat) (hj : j < 8) (c0 c1 c2 c3 : UInt8) (hc : W.be h[j] 4 = [c0, c1, c2, c3]) :
    ((((outL h j).set (4 * j) c0).set (4 * j + 1) c1).set (4 * j + 1 + 1) c2).set (4 * j + 1 + 1 + 1) c3 = outL h (j + 1) ∧ ((((outL h (j + 1)).set (4 * j) c0).set (4 * j + 1) c1).set (4 * j + 1 + 1) c2).set (4 * j + 1 + 1 + 1) c3 = outL h (j + 1) := by
  have h1 : bytes4 (h.take (j + 1)) = bytes4 (h.take j) ++ [c0, c1, c2, c3] := by
    rw [List.take_succ_eq_append_getElem (by omega)]
    unfold bytes4
    simp only [List.map_append, List.map_cons, List.map_nil, List.flatten_append, List.flatten_cons, List.flatten_nil, List.append_nil, hc]
  have hL : (bytes4 (h.take j)).length = 4 * j := by rw [bytes4_len, List.length_take]; omega
  have gen : ∀ (b r : List UInt8) (y0 y1 y2 y3 : UInt8), b.length = 4 * j → ((((b ++ ([y0, y1, y2, y3] ++ r)).set (4 * j) c0).set (4 * j + 1) c1).set (4 * j + 1 + 1) c2).set (4 * j + 1 + 1 + 1) c3 = b ++ ([c0, c1, c2, c3] ++ r) := by
    intro b r y0 y1 y2 y3 hb
    rw [List.set_append_right _ _ (by omega), List.set_append_right _ _ (by omega), List.set_append_right _ _ (by omega), List.set_append_right _ _ (by omega)]
    rw [show 4 * j - b.length = 0 by omega, show 4 * j + 1 - b.length = 1 by omega, show 4 * j + 1 + 1 - b.length = 2 by omega, show 4 * j + 1 + 1 + 1 - b.length = 3 by omega]
    rfl
  have e1 : outL h j = bytes4 (h.take j) ++ ([0, 0, 0, 0] ++ List.replicate (32 - 4 * (j + 1)) 0) := by
    unfold outL
    rw [show 32 - 4 * j = 4 + (32 - 4 * (j + 1)) by omega, ← List.replicate_append_replicate]; rfl
  have e2 : outL h (j + 1) = bytes4 (h.take j) ++ ([c0, c1, c2, c3] ++ List.replicate (32 - 4 * (j + 1)) 0) := by
    unfold outL
    rw [h1, List.append_assoc]
  refine ⟨?_, ?_⟩
  · rw [e1, e2]; exact gen _ _ _ _ _ _ hL
  · rw [e2]; exact gen _ _ _ _ _ _ hL
theorem first_four (s : ByteArray) (c0 c1 c2 c3 : UInt8) (hs : s = ⟨#[c0, c1, c2, c3]⟩) (w : World) : (Builtin.firstCells 1 4 (.string s)).run Tryz.prog w = .ok (W.bcells [c0, c1, c2, c3]).toArray w := by
  subst hs
  simp [Builtin.firstCells, W.bcells, ByteArray.data_extract]
/-- 'copy(s[4*j:], ..)' of four bytes. -/
theorem out_copy (h : List Nat) (hl : h.length = 8) (j : Nat) (hj : j < 8) (w : World) (q : Nat) : ∃ F : World → World, ∀ wz, (OW w q (outL h j) wz ∨ OW w q (outL h (j + 1)) wz) →
    (Builtin.copy_ #[117, 9] 3 #[.slice (some ⟨q, 4 * j, none⟩) (32 - 4 * j) (32 - 4 * j), .string (W.str (W.be h[j] 4))]).run Tryz.prog wz = .ok (.int .i64 4) (F wz) ∧ OW w q (outL h (j + 1)) (F wz) := by
  obtain ⟨c0, c1, c2, c3, hc⟩ : ∃ c0 c1 c2 c3, W.be h[j] 4 = [c0, c1, c2, c3] := ⟨_, _, _, _, rfl⟩
  obtain ⟨st1, st2⟩ := outL_step h hl j hj c0 c1 c2 c3 hc
  refine ⟨fun wz => wz.setCells q (4 * j) (W.bcells [c0, c1, c2, c3]), ?_⟩
  intro wz hz
  obtain ⟨o, ho, hset, hlen⟩ : ∃ o, OW w q o wz ∧ (((o.set (4 * j) c0).set (4 * j + 1) c1).set (4 * j + 1 + 1) c2).set (4 * j + 1 + 1 + 1) c3 = outL h (j + 1) ∧ o.length = 32 := by
    rcases hz with hz | hz
    · exact ⟨_, hz, st1, outL_len h hl j (by omega)⟩
    · exact ⟨_, hz, st2, outL_len h hl (j + 1) (by omega)⟩
  have hB := ho.2.1
  have hst := run_storeCells_cells (P := Tryz.prog) q (4 * j) (W.bcells [c0, c1, c2, c3]) 0 wz (by
      intro i hi
      have hi4 : i < 4 := hi
      rw [hB.cell (4 * j + 0 + i) (by omega)]; rfl) (fun i _ => hB.frozen _) (by
      intro v hv
      simp [W.bcells] at hv
      rcases hv with rfl | rfl | rfl | rfl <;> rfl)
  have k1 := first_four (W.str (W.be h[j] 4)) c0 c1 c2 c3 (by rw [hc]; rfl) wz
  have hsz4 : (W.str (W.be h[j] 4)).size = 4 := by rw [W.size_str, hc]; rfl
  refine ⟨?_, ?_⟩
  · obtain ⟨i, hi, hz0, hsz, _⟩ := info_parts (show (Tryz.prog.info? 5).map (fun i => (i.zero, i.size, i.bytes)) = some (some (.int .u8 0), 1, 1) by kernel_rfl)
    have hmin : Nat.min 4 (32 - 4 * j) = 4 := Nat.min_eq_left (by omega)
    generalize W.str (W.be h[j] 4) = s at *
    generalize W.bcells [c0, c1, c2, c3] = vs at *
    simp only [Nat.add_zero] at hst
    simp [Builtin.copy_, run_underlying Tryz.underlying117, Builtin.lenOf, sizeOf, typeInfo, hi, hsz, hsz4, k1, hst, hmin]
    rfl
  · have := (((ho.put (4 * j) c0).put (4 * j + 1) c1).put (4 * j + 1 + 1) c2).put (4 * j + 1 + 1 + 1) c3
    rw [hset] at this
    exact this
end Go.Proofs.YtpcmmejlmhbcdaaGreat.Dg

namespace Go.Proofs.YtpcmmejlmhbcdaaGreat.Dg
open Go.RowKit

theorem bcells_one (l : List UInt8) : (W.bcells l).toArray.all (·.oneCell') = true := by
  rw [Array.all_eq_true_iff_forall_mem]
  intro v hv
  simp [W.bcells] at hv
  obtain ⟨x, _, rfl⟩ := hv
  rfl
/-- What holds while blocks are read: the result's block, the rounds' constants, what is there by now. -/
def SW (w : World) (g : Nat) (h : List Nat) (wr : World) : Prop := BB w.heap.size 167 zb32 wr ∧ UB g 176 KS wr ∧ UB (g + 1) 178 h wr ∧ w.heap.size < g ∧ Below w.heap.size w wr
section
variable {w wr w1 : World} {g : Nat} {h : List Nat}
theorem SW.later (hs : SW w g h wr) (hb : Below wr.heap.size wr w1) : SW w g h w1 :=
  ⟨hs.1.later hb, hs.2.1.later hb, hs.2.2.1.later hb, hs.2.2.2.1, hs.2.2.2.2.trans (hb.mono hs.2.2.2.2.size)⟩
theorem SW.drew (hs : SW w g h wr) : SW w g h wr.drew := ⟨hs.1, hs.2.1, hs.2.2.1, hs.2.2.2.1, ⟨hs.2.2.2.2.os, hs.2.2.2.2.tape, hs.2.2.2.2.output, hs.2.2.2.2.size, hs.2.2.2.2.block⟩⟩
theorem SW.undrew (hs : SW w g h wr.drew) : SW w g h wr := ⟨hs.1, hs.2.1, hs.2.2.1, hs.2.2.2.1, ⟨hs.2.2.2.2.os, hs.2.2.2.2.tape, hs.2.2.2.2.output, hs.2.2.2.2.size, hs.2.2.2.2.block⟩⟩
theorem SW.put (hs : SW w g h wr) (j x : Nat) : SW w g (h.set j x) (wr.setCell ⟨g + 1, j, none⟩ (.int .u32 (x : Int))) :=
  ⟨(heap_setCell_other wr ⟨g + 1, j, none⟩ w.heap.size _ (by have := hs.2.2.2.1; show w.heap.size ≠ g + 1; omega)).trans hs.1, hs.2.1.other _ (by simp), hs.2.2.1.put j x, hs.2.2.2.1, hs.2.2.2.2.setCell (by have := hs.2.2.2.1; show w.heap.size ≤ g + 1; omega) _⟩
end
/-- The blocks that hold what came: made, then stored. -/
theorem sw_start (w w4 : World) (hb : Below w.heap.size w w4) (h0 : BB w.heap.size 167 zb32 w4) :
    SW w w4.heap.size HS ((((w4.alloc (.cells (u32c (List.replicate 64 0)) 176)).alloc (.cells (u32c zs8) 178)).setRow w4.heap.size (u32c KS)).setRow (w4.heap.size + 1) (u32c HS)) := by
  have s1 : (w4.alloc (.cells (u32c (List.replicate 64 0)) 176)).heap.size = w4.heap.size + 1 := by simp
  have st : ∀ (wx : World) (o : Obj), Below wx.heap.size wx (wx.alloc o) := fun wx o => (Below.refl _ _).alloc (Nat.le_refl _) _
  have u1 := (ub_new w4 (List.replicate 64 0) 176).later (st _ (.cells (u32c zs8) 178))
  have u2 := ub_new (w4.alloc (.cells (u32c (List.replicate 64 0)) 176)) zs8 178
  rw [s1] at u2
  have hlt := h0.lt
  have b1 := (hb.alloc (by omega) (.cells (u32c (List.replicate 64 0)) 176)).alloc (by simp; omega) (.cells (u32c zs8) 178)
  refine ⟨?_, (u1.row KS).rowOther HS (by omega), (u2.rowOther KS (by omega)).row HS, hlt, below_row (below_row b1 (by omega) _) (by omega) _⟩
  have h1 := (h0.later (st w4 (.cells (u32c (List.replicate 64 0)) 176))).later (st _ (.cells (u32c zs8) 178))
  unfold BB
  rw [setRow_other _ _ _ _ (by omega), setRow_other _ _ _ _ (by omega)]
  exact h1

theorem start_u1 (wd : World) {A B : Array Value} (hA : A = u32c (List.replicate 64 0)) : UB wd.heap.size 176 (List.replicate 64 0) ((wd.alloc (.cells A 176)).alloc (.cells B 178)) := by
  subst hA
  exact (ub_new wd (List.replicate 64 0) 176).later ((Below.refl _ _).alloc (Nat.le_refl _) _)
theorem start_u2 (wd : World) {A B : Array Value} (hB : B = u32c zs8) : UB (wd.heap.size + 1) 178 zs8 (((wd.alloc (.cells A 176)).alloc (.cells B 178)).setRow wd.heap.size (u32c KS)) := by
  subst hB
  have s1 : (wd.alloc (.cells A 176)).heap.size = wd.heap.size + 1 := by simp
  have u2 := ub_new (wd.alloc (.cells A 176)) zs8 178
  rw [s1] at u2
  exact u2.rowOther KS (by omega)

set_option maxRecDepth 1000000 in
set_option maxHeartbeats 4000000 in
theorem sum_core (v : Value) (l : List UInt8) (hl : l.length ≤ 200000) (w : World) (hj : ∀ w', Below w.heap.size w w' → Calls Tryz.prog 120 #[v, .string ⟨#[]⟩] w' fun e w'' => e = .returned (.string (W.str l)) ∧ Below w'.heap.size w' w'') :
    Calls Tryz.prog 111 #[v] w fun e w' => e = .returned (.agg (W.bcells (sumL l)).toArray) ∧ Below w.heap.size w w' := by
  have HJ := Lib.hid hj
  have KW := Lib.hid (whole_any l hl)
  have KK := Lib.hid keys_any
  have KS0 := Lib.hid start_any
  have HL := Lib.hid hl
  clear hj hl
  go_enter Tryz.func111, Tryz.ntmps111
  go_upto_region 1 with (fail)
  rw [zb32_is]
  refine gen_wp (S := fun wz => Hid (BB w.heap.size 167 zb32 wz ∧ Below w.heap.size w wz)) (Lib.hid ⟨bb_new w zb32 167, (Below.refl _ _).alloc (Nat.le_refl _) _⟩) ?_
  intro W0 H0
  go_wp2_with (first
    | (go_at_call 120; go_must (refine (HJ.out _ H0.out.2).mono ?_); rintro e wa ⟨rfl, hba⟩)
    | (go_at_call 119; go_must (refine (KW.out _).mono ?_); rintro e wb ⟨rfl, hbb⟩)
    | (go_at_call 121; go_must (refine (KK.out _).mono ?_); rintro e wc ⟨rfl, hbc⟩)
    | (go_at_call 122; go_must (refine (KS0.out _).mono ?_); rintro e wd ⟨rfl, hbd⟩)
    | (refine wpList_store_ub rfl 176 (.tmp 4) (.tmp 15) rfl (start_u1 _ keys_zero) (l2 := KS) keys_info rfl rfl rfl ?_)
    | (refine wpList_store_ub rfl 178 (.tmp 5) (.tmp 16) rfl (start_u2 _ zs8_is) (l2 := HS) start_info rfl rfl rfl ?_))
  rw [keys_zero, zs8_is]
  have c1 := H0.out.2.trans (hba.mono H0.out.2.size)
  have c2 := c1.trans (hbb.mono c1.size)
  have c3 := c2.trans (hbc.mono c2.size)
  have c4 := c3.trans (hbd.mono c3.size)
  refine gen_wp (S := fun wz => Hid (SW w wd.heap.size HS wz)) (Lib.hid (sw_start w wd c4 ((((H0.out.1.later hba).later hbb).later hbc).later hbd))) ?_
  intro W1 H1
  obtain ⟨N, hN⟩ : ∃ N, (wholeL l).length / 64 = N := ⟨_, rfl⟩
  have hM : (W.str (wholeL l)).size = 64 * N := by rw [W.size_str]; have := wholeL_64 l; omega
  have hN40 : N ≤ 4000 := by have := wholeL_len l; unfold nts at this; have := HL.out; omega
  have HSUM : Hid (sumL l = bytes4 (hsn (W.str (wholeL l)) N)) := Lib.hid (by unfold sumL; rw [hN])
  clear c1 c2 c3 c4 hba hbb hbc hbd H0 HJ KW KK KS0 hN HL
  generalize W.str (wholeL l) = t at *
  generalize wd.heap.size = g at *
  generalize W.str l = s at *
  obtain ⟨M, hMM⟩ : ∃ M, 64 * N = M := ⟨_, rfl⟩
  rw [hMM] at hM
  have hM2 : (M : Int) ≤ 256000 := by omega
  have hM0 : (0 : Int) ≤ M := by omega
  have HMM := Lib.hid hMM
  clear hMM hN40
  go_loopw [6] (fun i wr => ∃ (k p : Nat), k ≤ N ∧ i = .int .i64 (p : Int) ∧ Hid (p = 64 * k) ∧ Hid (SW w g (hsn t k) wr)) (fun i _ => M - (intOf i).toNat)
  case atStart => exact ⟨0, 0, by omega, rfl, Lib.hid rfl, H1⟩
  case round =>
    obtain ⟨k, p, hk, rfl, hp, hW⟩ := hrel
    by_cases hlt : k < N
    · have hpM : (p : Int) + 64 ≤ M := by have := hp.out; have := HMM.out; omega
      have hpM2 : (p : Int) < M := by omega
      have hp0 : (0 : Int) ≤ p := by omega
      have KSp : Hid (∀ w, Calls Tryz.prog 124 #[.string (t.extract p (p + 64))] w fun e w' => e = .returned (.agg (u32c (sch (t.extract p (p + 64)) 64))) ∧ Below w.heap.size w w') := Lib.hid (fun w => spread_any _ (by rw [extract_size t p (p + 64) (by omega)]; omega) w)
      obtain ⟨H, hH⟩ : ∃ H, hsn t k = H := ⟨_, rfl⟩
      have HOK := hsn_ok t k
      have hnx : hsn t (k + 1) = addL (hsn t k) (rds KS (sch (t.extract (64 * k) (64 * k + 64)) 64) (hsn t k)) := rfl
      rw [← hp.out] at hnx
      rw [hH] at hW HOK hnx
      have hzl := sch_len (t.extract p (p + 64)) 64
      have hzs : small (sch (t.extract p (p + 64)) 64) := sch_lt _ (by rw [extract_size t p (p + 64) (by omega)]; omega) 64
      generalize sch (t.extract p (p + 64)) 64 = Z at *
      obtain ⟨V, hV⟩ : ∃ V, rds KS Z H = V := ⟨_, rfl⟩
      have VOK := rds_ok KS Z H HOK.1 HOK.2
      rw [hV] at hnx VOK
      obtain ⟨CS, hCS⟩ : ∃ CS, (KS.map fun x : Nat => Value.int .u32 (x : Int)) = CS := ⟨_, rfl⟩
      have hUK : u32c KS = CS.toArray := by rw [← hCS]; rfl
      have hLK : (Tryz.prog.info? 176).map (·.size) = some CS.length := by rw [← hCS, List.length_map]; exact keys_info
      have hU52 := Tryz.underlying176
      obtain ⟨x0, x1, x2, x3, x4, x5, x6, x7, hx⟩ : ∃ x0 x1 x2 x3 x4 x5 x6 x7, H = [x0, x1, x2, x3, x4, x5, x6, x7] := by
        match H, HOK.1 with
        | [a, b, c, d, e, f, g, h], _ => exact ⟨a, b, c, d, e, f, g, h, rfl⟩
      have KRd : Hid (∀ w, Calls Tryz.prog 123 #[.agg #[.int .u32 (x0 : Int), .int .u32 (x1 : Int), .int .u32 (x2 : Int), .int .u32 (x3 : Int), .int .u32 (x4 : Int), .int .u32 (x5 : Int), .int .u32 (x6 : Int), .int .u32 (x7 : Int)], .agg (u32c Z), .agg CS.toArray] w fun e w' => e = .returned (.agg (u32c V)) ∧ Below w.heap.size w w') := Lib.hid (fun w => by
        have := rounds_any H Z KS HOK.1 HOK.2 hzl small_KS.1 hzs small_KS.2 w
        rw [hV, hUK, hx] at this
        exact this)
      have mk : Hid (∀ wz, SW w g H wz → (wz.cell? ⟨g + 1, 0, none⟩ = some (.int .u32 (x0 : Int)) ∧ wz.cell? ⟨g + 1, 1, none⟩ = some (.int .u32 (x1 : Int)) ∧ wz.cell? ⟨g + 1, 2, none⟩ = some (.int .u32 (x2 : Int)) ∧ wz.cell? ⟨g + 1, 3, none⟩ = some (.int .u32 (x3 : Int)) ∧ wz.cell? ⟨g + 1, 4, none⟩ = some (.int .u32 (x4 : Int)) ∧ wz.cell? ⟨g + 1, 5, none⟩ = some (.int .u32 (x5 : Int)) ∧ wz.cell? ⟨g + 1, 6, none⟩ = some (.int .u32 (x6 : Int)) ∧ wz.cell? ⟨g + 1, 7, none⟩ = some (.int .u32 (x7 : Int)) ∧ wz.rangeAt g 0 CS ∧ Hid (SW w g H wz))) := Lib.hid (fun wz q => by
        have qq := q.2.2.1
        rw [hx] at qq
        refine ⟨qq.cell 0 (by show 0 < 8; omega), qq.cell 1 (by show 1 < 8; omega), qq.cell 2 (by show 2 < 8; omega), qq.cell 3 (by show 3 < 8; omega), qq.cell 4 (by show 4 < 8; omega), qq.cell 5 (by show 5 < 8; omega), qq.cell 6 (by show 6 < 8; omega), qq.cell 7 (by show 7 < 8; omega), ?_, Lib.hid q⟩
        intro j v hv
        rw [Nat.zero_add, cell_of_row wz g j _ _ _ q.2.1, hUK]
        simpa using hv)
      have HNX := Lib.hid hnx
      have HHOK := Lib.hid HOK
      have HVOK := Lib.hid VOK
      clear hnx HOK VOK hV hCS hUK hzl hzs hH hx
      have hst := Lib.hid (SW.drew hW.out)
      obtain ⟨p2, hp2⟩ : ∃ p2, p + 64 = p2 := ⟨_, rfl⟩
      rw [hp2] at KSp
      have e64 : (p : Int) + 64 = (p2 : Int) := by omega
      have w64 : IntKind.i64.wrap (p2 : Int) = (p2 : Int) := IntWalk.i64_in _ ⟨by omega, by omega⟩
      have b64 : (p2 : Int) ≤ M := by omega
      have a64 : (p : Int) ≤ p2 := by omega
      have z64 : (0 : Int) ≤ p2 := by omega
      have HP2 := Lib.hid hp2
      have n64 : p ≤ p2 := by omega
      have m64 : p2 ≤ M := by omega
      clear hpM hp2
      go_upto_region 5 with (fail)
      go_region_held3 (fun wz => wz.cell? ⟨g + 1, 0, none⟩ = some (.int .u32 (x0 : Int)) ∧ wz.cell? ⟨g + 1, 1, none⟩ = some (.int .u32 (x1 : Int)) ∧ wz.cell? ⟨g + 1, 2, none⟩ = some (.int .u32 (x2 : Int)) ∧ wz.cell? ⟨g + 1, 3, none⟩ = some (.int .u32 (x3 : Int)) ∧ wz.cell? ⟨g + 1, 4, none⟩ = some (.int .u32 (x4 : Int)) ∧ wz.cell? ⟨g + 1, 5, none⟩ = some (.int .u32 (x5 : Int)) ∧ wz.cell? ⟨g + 1, 6, none⟩ = some (.int .u32 (x6 : Int)) ∧ wz.cell? ⟨g + 1, 7, none⟩ = some (.int .u32 (x7 : Int)) ∧ wz.rangeAt g 0 CS ∧ Hid (SW w g H wz))
          (first
            | exact mk.out _ hst.out
            | (refine mk.out _ (SW.later ?_ (by assumption)); go_split_ands; (first | (refine Hid.out ?_; assumption) | (refine SW.undrew (Hid.out ?_); assumption)))
            | (refine mk.out _ (SW.drew ?_); go_split_ands; (first | (refine Hid.out ?_; assumption) | (refine SW.undrew (Hid.out ?_); assumption)))
            | (refine mk.out _ ?_; go_split_ands; (first | (refine Hid.out ?_; assumption) | (refine SW.undrew (Hid.out ?_); assumption))))
          (first
            | (go_at_call 124; ((with_reducible refine (KSp.out _).mono ?_); rintro e w1 ⟨rfl, hb1⟩))
            | (go_at_call 123; ((with_reducible refine (KRd.out _).mono ?_); rintro e w2 ⟨rfl, hb2⟩)))
      have HW2 : Hid (SW w g (mixL H V 0) w2) := by rw [mixL_0]; exact Lib.hid (((SW.drew hW.out).later hb1).later hb2)
      simp only [Exit.then]
      apply_assumption
      clear mk hst hW hb1 hb2 KSp KRd w64 a64 z64 n64 m64 b64 hLK hU52
      go_wp2
      go_loopw [32] (fun j wr => ∃ q : Nat, q ≤ 8 ∧ j = .int .i64 (q : Int) ∧ Hid (SW w g (mixL H V q) wr)) (fun j _ => 8 - (intOf j).toNat)
      case atStart => exact ⟨0, by omega, rfl, HW2⟩
      case round =>
        obtain ⟨q, hq, rfl, hQ⟩ := hrel
        by_cases hq8 : q < 8
        · have hv8 : q < V.length := by rw [HVOK.out.1]; exact hq8
          have hh8 : q < H.length := by rw [HHOK.out.1]; exact hq8
          have hix := fun wz => run_index_u32 V q hv8 HVOK.out.1 wz
          have c0 := hQ.out.2.2.1.cell q (by rw [mixL_len H V HHOK.out.1 HVOK.out.1 q hq]; exact hq8)
          rw [mixL_get H V HHOK.out.1 HVOK.out.1 q hq8] at c0
          have f0 := hQ.out.2.2.1.frozen q
          have hadd := add_mod32 H[q] V[q]
          have hput := hQ.out.put q ((H[q] + V[q]) % 4294967296)
          rw [mixL_set H V HHOK.out.1 HVOK.out.1 q hq8] at hput
          have HPUT := Lib.hid hput
          have q8 : (q : Int) < 8 := by omega
          have q0 : (0 : Int) ≤ q := by omega
          clear hput hQ HW2
          generalize (H[q] + V[q]) % 4294967296 = y at *
          generalize V[q] = vq at *
          generalize H[q] = hq' at *
          clear hv8 hh8
          go_wp2
          go_roundw
          case rel => exact ⟨q + 1, by omega, by go_num, HPUT⟩
          case measure => simp [intOf]; omega
        · obtain rfl : q = 8 := by omega
          have hQ2 : Hid (SW w g (hsn t (k + 1)) wr) := by rw [HNX.out, ← mixL_8 H V HHOK.out.1 HVOK.out.1]; exact hQ
          have HPp : Hid (p2 = 64 * (k + 1)) := Lib.hid (by have := HP2.out; have := hp.out; omega)
          have hless : M - p2 < M - p := by have := HP2.out; omega
          go_wp2
          exact ⟨⟨k + 1, p2, by omega, rfl, HPp, hQ2⟩, by simp [intOf]; omega⟩
    · obtain rfl : k = N := by omega
      have hpM : (M : Int) ≤ p := by have := hp.out; have := HMM.out; omega
      obtain ⟨H, hH⟩ : ∃ H, hsn t k = H := ⟨_, rfl⟩
      have HOK := hsn_ok t k
      have HS2 := HSUM.out
      rw [hH] at hW HOK HS2
      have HSUM2 := Lib.hid HS2
      have HHOK := Lib.hid HOK
      have hUB := Lib.hid hW.out.2.2.1
      have hLN : (Tryz.prog.info? 178).map (·.size) = some H.length := by rw [HOK.1]; exact start_info
      have HLN := Lib.hid hLN
      clear HSUM HOK HS2 hH hLN
      go_upto_region 11 with (fail)
      rw [zb32_is]
      have st := (Below.refl wr.heap.size wr).alloc (Nat.le_refl _) (.cells (W.bcells zb32).toArray 167)
      refine gen_wp (S := fun wz => Hid (UB (g + 1) 178 H wz) ∧ Hid (OW w wr.heap.size (outL H 0) wz)) ⟨Lib.hid (hUB.out.later st), Lib.hid ⟨hW.out.1.later st, bb_new wr zb32 167, hW.out.1.lt, hW.out.2.2.2.2.alloc (Nat.le_of_lt hW.out.1.lt) _⟩⟩ ?_
      intro W5 H5
      obtain ⟨hU5, hO5⟩ := H5
      clear st hUB hW
      generalize wr.heap.size = q at *
      go_wp2_with (first | (refine wpList_load_ub rfl 178 (.tmp 5) rfl hU5.out Tryz.underlying178 HLN.out rfl ?_))
      go_loopw [44] (fun i wr => ∃ j : Nat, j ≤ 8 ∧ i = .int .i64 (j : Int) ∧ Hid (OW w q (outL H j) wr)) (fun i _ => 8 - (intOf i).toNat)
      case atStart => exact ⟨0, by omega, rfl, hO5⟩
      case round =>
        obtain ⟨j, hj, rfl, hO⟩ := hrel
        by_cases hj8 : j < 8
        · have hh8 : j < H.length := by rw [HHOK.out.1]; exact hj8
          have hix := fun wz => run_index_u32 H j hh8 HHOK.out.1 wz
          obtain ⟨F, hF⟩ := out_copy H HHOK.out.1 j hj8 w q
          have hb := HHOK.out.2 _ (List.getElem_mem hh8)
          have KP : Hid (∀ w, Calls Tryz.prog 93 #[.int .u64 (H[j] : Int), .int .i64 4] w fun e w' => e = .returned (.string (W.str (W.be H[j] 4))) ∧ Below w.heap.size w w') := Lib.hid (fun w => W.put_any H[j] 4 (by omega) w)
          obtain ⟨a, ha⟩ : ∃ a, 4 * j = a := ⟨_, rfl⟩
          rw [ha] at hF
          have hm4 : (4 : Int) * j = (a : Int) := by omega
          have wa : IntKind.i64.wrap (a : Int) = (a : Int) := IntWalk.i64_in _ ⟨by omega, by omega⟩
          have a0 : (0 : Int) ≤ a := by omega
          have a32 : (a : Int) ≤ 32 := by omega
          have na32 : a ≤ 32 := by omega
          have j8 : (j : Int) < 8 := by omega
          have j0 : (0 : Int) ≤ j := by omega
          have mk : Hid (∀ wz, (OW w q (outL H j) wz ∨ OW w q (outL H (j + 1)) wz) → ((Builtin.copy_ #[117, 9] 3 #[.slice (some ⟨q, a, none⟩) (32 - a) (32 - a), .string (W.str (W.be H[j] 4))]).run Tryz.prog wz = .ok (.int .i64 4) (F wz) ∧ Hid (OW w q (outL H j) wz ∨ OW w q (outL H (j + 1)) wz))) := Lib.hid (fun wz h => ⟨(hF wz h).1, Lib.hid h⟩)
          have HF : Hid (∀ wz, (OW w q (outL H j) wz ∨ OW w q (outL H (j + 1)) wz) → OW w q (outL H (j + 1)) (F wz)) := Lib.hid (fun wz h => (hF wz h).2)
          have hst := Lib.hid (OW.drew hO.out)
          have mkl : Hid (∀ wz w1, (OW w q (outL H j) wz ∨ OW w q (outL H (j + 1)) wz) → Below wz.heap.size wz w1 → (OW w q (outL H j) w1 ∨ OW w q (outL H (j + 1)) w1)) := Lib.hid (fun wz w1 h hb => h.elim (fun h => Or.inl (h.later hb)) (fun h => Or.inr (h.later hb)))
          have mkd : Hid (∀ wz, (OW w q (outL H j) wz ∨ OW w q (outL H (j + 1)) wz) → (OW w q (outL H j) wz.drew ∨ OW w q (outL H (j + 1)) wz.drew)) := Lib.hid (fun wz h => h.elim (fun h => Or.inl h.drew) (fun h => Or.inr h.drew))
          have mku : Hid (∀ wz, (OW w q (outL H j) wz.drew ∨ OW w q (outL H (j + 1)) wz.drew) → (OW w q (outL H j) wz ∨ OW w q (outL H (j + 1)) wz)) := Lib.hid (fun wz h => h.elim (fun h => Or.inl h.undrew) (fun h => Or.inr h.undrew))
          have wx : IntKind.u64.wrap (H[j] : Int) = (H[j] : Int) := IntWalk.u64_in _ ⟨by omega, by omega⟩
          clear hF hb ha
          generalize W.str (W.be H[j] 4) = b4 at *
          generalize H[j] = x at *
          go_upto_region 14 with (fail)
          go_region_held3 (fun wz => (Builtin.copy_ #[117, 9] 3 #[.slice (some ⟨q, a, none⟩) (32 - a) (32 - a), .string b4]).run Tryz.prog wz = .ok (.int .i64 4) (F wz) ∧ Hid (OW w q (outL H j) wz ∨ OW w q (outL H (j + 1)) wz))
            (first
              | exact mk.out _ (Or.inl hst.out)
              | (refine mk.out _ (mkl.out _ _ ?_ (by assumption)); go_split_ands; (first | (refine Hid.out ?_; assumption) | (refine mku.out _ (Hid.out ?_); assumption)))
              | (refine mk.out _ (Or.inr (HF.out _ ?_)); go_split_ands; (first | (refine Hid.out ?_; assumption) | (refine mku.out _ (Hid.out ?_); assumption)))
              | (refine mk.out _ (mkd.out _ (Or.inr (HF.out _ ?_))); go_split_ands; (first | (refine Hid.out ?_; assumption) | (refine mku.out _ (Hid.out ?_); assumption)))
              | (refine mk.out _ (mkd.out _ ?_); go_split_ands; (first | (refine Hid.out ?_; assumption) | (refine mku.out _ (Hid.out ?_); assumption)))
              | (refine mk.out _ ?_; go_split_ands; (first | (refine Hid.out ?_; assumption) | (refine mku.out _ (Hid.out ?_); assumption))))
            (first
              | (go_at_call 93; ((with_reducible refine (KP.out _).mono ?_); rintro e w1 ⟨rfl, hb1⟩)))
          have HOF := Lib.hid (HF.out _ (Or.inl ((OW.drew hO.out).later hb1)))
          simp only [Exit.inBlock, Exit.then]
          apply_assumption
          clear mk hst mkl mkd mku HF KP hb1
          go_wp2
          go_roundw
          case rel => exact ⟨j + 1, by omega, by go_num, HOF⟩
          case measure => simp [intOf]; omega
        · obtain rfl : j = 8 := by omega
          have hO2 := hO.out
          rw [outL_8 H HHOK.out.1, ← HSUM2.out] at hO2
          have HO2 := Lib.hid hO2
          have HI42 : Hid ((Tryz.prog.info? 167).map (·.size) = some (W.bcells (sumL l)).toArray.size) := Lib.hid (by rw [show (W.bcells (sumL l)).toArray.size = (sumL l).length by simp [W.bcells], sumL_len]; kernel_rfl)
          have HSZ : Hid ((W.bcells zb32).toArray.size = (W.bcells (sumL l)).toArray.size) := Lib.hid (by rw [show (W.bcells (sumL l)).toArray.size = (sumL l).length by simp [W.bcells], sumL_len]; rfl)
          have HONE : Hid ((W.bcells (sumL l)).toArray.all (·.oneCell') = true) := Lib.hid (bcells_one _)
          have HR := Lib.hid (setRow_heap wr w.heap.size (W.bcells zb32).toArray (W.bcells (sumL l)).toArray 167 _ hO2.1)
          have HBB := Lib.hid (below_row hO2.2.2.2 (Nat.le_refl _) (W.bcells (sumL l)).toArray)
          clear hO2 hO HSUM2 H1 hO5 hU5 HLN
          go_wp2_with (first
            | (refine wpList_load_row rfl 167 (.tmp 9) rfl q rfl 167 (W.bcells (sumL l)).toArray (0, 0) _ HO2.out.2.1 Tryz.underlying167 rfl HI42.out ?_)
            | (refine wpList_plain rfl fun _ hK => wp_store_row 167 (.tmp 2) (.tmp 56) rfl w.heap.size (W.bcells (sumL l)).toArray rfl rfl 167 (W.bcells zb32).toArray HO2.out.1 HI42.out HSZ.out HONE.out (hK _ _ ?_)))
          refine bodyPost_ret (v := .agg (W.bcells (sumL l)).toArray) ?_ rfl ⟨rfl, HBB.out⟩
          exact results_cell_row rfl _ _ w.heap.size 167 (W.bcells (sumL l)).toArray (0, 0) _ rfl HR.out Tryz.underlying167 rfl HI42.out
end Go.Proofs.YtpcmmejlmhbcdaaGreat.Dg
