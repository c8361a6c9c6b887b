/- codec.Text, codec.Num; law07's awake.; codec.Get, out of what codec.read answers. -/
import Derived.Test.YtlochpnifjmefaaJ22
import Derived.Test.YtlochpnifjmefaaJ23
set_option linter.unusedVariables false
set_option linter.unusedSimpArgs false
namespace Go.Proofs.Ytlochpnifjmefaa
open Go.RowKit

set_option maxRecDepth 100000 in
theorem text_any (s : ByteArray) (hs : s.size ≤ 1000000000) (w : World) : Calls Try.prog 21 #[.string s] w fun e w' => e = .returned (.agg #[.int .i64 2, .int .u64 0, .string s, .slice none 0 0]) ∧ Below w.heap.size w w' := by
  have K39 := Lib.hid (fun w => clone_any s w hs)
  have HBX := Lib.hid (show Bx w.heap.size (.int .i64 0) (.int .u64 0) (.string ⟨#[]⟩) (.slice none 0 0) (w.alloc (.cells #[.int .i64 0, .int .u64 0, .string ⟨#[]⟩, .slice none 0 0] 27)) from ⟨four_new _ _ _ _ _ _, alloc_lt _ _⟩)
  have HH := Lib.hid (heap_alloc_new w (.cells #[.int .i64 0, .int .u64 0, .string ⟨#[]⟩, .slice none 0 0] 27))
  have HBL := Lib.hid (alloc_below w (.cells #[.int .i64 0, .int .u64 0, .string ⟨#[]⟩, .slice none 0 0] 27))
  clear hs
  go_enter Try.func21, Try.ntmps21
  go_wp2_with fail
  refine (K39.out _).mono ?_
  rintro r w1 ⟨rfl, hb1⟩
  obtain ⟨c0, c1, c2, c3⟩ := (HBX.out.later hb1).1
  have b1 := (hb1.block _ (lt_of_heap HH.out)).trans HH.out
  have y0 := frozen_of_row w1 w.heap.size 0 _ _ b1
  have y1 := frozen_of_row w1 w.heap.size 1 _ _ b1
  have y2 := frozen_of_row w1 w.heap.size 2 _ _ b1
  have y3 := frozen_of_row w1 w.heap.size 3 _ _ b1
  have HB := Lib.hid (HBL.out.trans (hb1.mono HBL.out.size))
  clear b1 hb1
  go_wp2
  refine bodyPost_ret (v := .agg #[.int .i64 2, .int .u64 0, .string s, .slice none 0 0]) (by simp [results, Try.results21, go_sem, *]) rfl ⟨rfl, ?_⟩
  have hle : w.heap.size ≤ w.heap.size := Nat.le_refl _
  exact (((HB.out.setCell (p := ⟨w.heap.size, 0, none⟩) hle _).setCell (p := ⟨w.heap.size, 1, none⟩) hle _).setCell (p := ⟨w.heap.size, 2, none⟩) hle _).setCell (p := ⟨w.heap.size, 3, none⟩) hle _
set_option maxRecDepth 100000 in
theorem num_any (n : Nat) (w : World) : Calls Try.prog 30 #[.int .u64 (n : Int)] w fun e w' => e = .returned (.agg #[.int .i64 1, .int .u64 (n : Int), .string ⟨#[]⟩, .slice none 0 0]) ∧ Below w.heap.size w w' := by
  go_enter Try.func30, Try.ntmps30
  go_wp2
  refine bodyPost_ret (v := .agg #[.int .i64 1, .int .u64 (n : Int), .string ⟨#[]⟩, .slice none 0 0]) (by simp [results, Try.results30, go_sem, *]) rfl ⟨rfl, ?_⟩
  exact (Below.refl _ _).alloc (Nat.le_refl _) _

def t5 : Tr := .mk 3 0 ⟨#[]⟩ [.mk 1 5 ⟨#[]⟩ []]
theorem sh_small (n : Nat) (h : n < 128) : sh n = [UInt8.ofNat n] := by rw [sh]; simp; omega
theorem t5_put : putC t5 = 0 ∧ putS t5 = ⟨#[3, 1, 1, 5]⟩ := by
  have h1 : sndT t5 = true := by simp [t5, sndT, sndL, ByteArray.size]
  have h2 : deepT t5 = 1 := by simp [t5, deepT, deepL]
  have h3 : txtT t5 = [3, 1, 1, 5] := by simp [t5, txtT, txtL, sh_small]
  have h4 : putC t5 = 0 := by unfold putC; rw [h1, h2, h3]; rfl
  refine ⟨h4, ?_⟩
  unfold putS
  rw [if_pos h4, h3]
  rfl
theorem t5_deep : deepT t5 ≤ 1000000000 := by
  have h2 : deepT t5 = 1 := by simp [t5, deepT, deepL]
  omega
theorem t5_in (w : World) : VInL (w.alloc (.cells #[.int .i64 1, .int .u64 5, .string ⟨#[]⟩, .slice none 0 0] 27)) w.heap.size 0 [.mk 1 5 ⟨#[]⟩ []] := by
  unfold VInL
  obtain ⟨c0, c1, c2, c3⟩ := four_new w (.int .i64 1) (.int .u64 5) (.string ⟨#[]⟩) (.slice none 0 0) 27
  refine ⟨⟨_, _, _, _, c0, c1, c2, c3, ?_⟩, by unfold VInL; trivial⟩
  unfold VIn
  exact ⟨rfl, rfl, by omega, rfl, ⟨by simp [ByteArray.size], by simp⟩, none, 0, 0, 0, rfl, fun h => absurd h (by simp), by unfold VInL; trivial⟩

set_option maxRecDepth 100000 in
theorem awake7_any (w : World) : Calls Try.prog 9 #[] w fun e w' => e = .returned (.bool true) ∧ Below w.heap.size w w' := by
  have K1 := Lib.hid (fun w => num_any 5 w)
  have K2 : Hid (∀ W : World, Calls Try.prog 20 #[.slice (some ⟨W.heap.size, 0, none⟩) 1 1] (W.alloc (.cells #[.int .i64 1, .int .u64 5, .string ⟨#[]⟩, .slice none 0 0] 27)) (ToP t5 (W.alloc (.cells #[.int .i64 1, .int .u64 5, .string ⟨#[]⟩, .slice none 0 0] 27)))) :=
    Lib.hid (fun W => list_any [.mk 1 5 ⟨#[]⟩ []] (by simp) _ 1 W.heap.size 0 _ (fun _ => ⟨rfl, alloc_lt _ _⟩) (t5_in W))
  have K3 : Hid (∀ (w : World) (c0 c1 c2 c3 : Value), VIn w t5 c0 c1 c2 c3 → Calls Try.prog 11 #[.agg #[c0, c1, c2, c3]] w fun e w' => e = .returned (.tuple #[.string ⟨#[3, 1, 1, 5]⟩, .int .i64 0]) ∧ Below w.heap.size w w') := Lib.hid (fun w c0 c1 c2 c3 h => by
    have h2 := put_tree t5 c0 c1 c2 c3 w t5_deep h
    rw [t5_put.1, t5_put.2] at h2
    exact h2)
  go_enter Try.func9, Try.ntmps9
  go_wp2_with fail
  refine (K1.out _).mono ?_
  rintro r w1 ⟨rfl, hb1⟩
  go_wp2_with fail
  refine (K2.out w1).mono ?_
  rintro r w2 ⟨d0, d1, d2, d3, rfl, hv, hb2⟩
  have HB2 := Lib.hid ((hb1.alloc hb1.size (.cells #[.int .i64 1, .int .u64 5, .string ⟨#[]⟩, .slice none 0 0] 27)).trans (hb2.mono (Nat.le_trans hb1.size (by simp))))
  have HV := Lib.hid hv.plain
  clear hb1 hb2 hv
  go_wp2_with fail
  refine (K3.out _ _ _ _ _ HV.out).mono ?_
  rintro r w3 ⟨rfl, hb3⟩
  have HB3 := Lib.hid (HB2.out.trans (hb3.mono HB2.out.size))
  clear hb3
  go_wp2_with fail
  refine (awake1_any _).mono ?_
  rintro r w4 ⟨rfl, hb4⟩
  go_wp2
  go_ret
  exact ⟨rfl, HB3.out.trans (hb4.mono HB3.out.size)⟩
end Go.Proofs.Ytlochpnifjmefaa

namespace Go.Proofs.Ytlochpnifjmefaa
open Go.RowKit

/-- A value, a rest, an error. -/
def crV (a b c d : Value) (r : ByteArray) (e : Nat) : Value := .tuple #[.agg #[a, b, c, d], .string r, .int .i64 (e : Int)]
def cgV (a b c d : Value) (e : Nat) : Value := .tuple #[.agg #[a, b, c, d], .int .i64 (e : Int)]
/-- The zero value's box, at the head of what is new. -/
def Zx (w wz : World) : Prop := wz.heap[w.heap.size]? = some (.cells #[.int .i64 0, .int .u64 0, .string ⟨#[]⟩, .slice none 0 0] 27 (0, 0)) ∧ Below w.heap.size w wz
theorem Zx.new (w : World) : Zx w (w.alloc (.cells #[.int .i64 0, .int .u64 0, .string ⟨#[]⟩, .slice none 0 0] 27)) := ⟨heap_alloc_new w _, alloc_below _ _⟩
theorem Zx.later {w wz w1 : World} (h : Zx w wz) (hb : Below wz.heap.size wz w1) : Zx w w1 := ⟨(hb.block _ (lt_of_heap h.1)).trans h.1, h.2.trans (hb.mono h.2.size)⟩
theorem Zx.cells {w wz : World} (h : Zx w wz) : wz.cell? ⟨w.heap.size, 0, none⟩ = some (.int .i64 0) ∧ wz.cell? ⟨w.heap.size, 1, none⟩ = some (.int .u64 0) ∧ wz.cell? ⟨w.heap.size, 2, none⟩ = some (.string ⟨#[]⟩) ∧ wz.cell? ⟨w.heap.size, 3, none⟩ = some (.slice none 0 0) ∧ wz.frozen? ⟨w.heap.size, 0, none⟩ = false ∧ wz.frozen? ⟨w.heap.size, 1, none⟩ = false ∧ wz.frozen? ⟨w.heap.size, 2, none⟩ = false ∧ wz.frozen? ⟨w.heap.size, 3, none⟩ = false := by
  refine ⟨?_, ?_, ?_, ?_, frozen_of_row wz _ 0 _ _ h.1, frozen_of_row wz _ 1 _ _ h.1, frozen_of_row wz _ 2 _ _ h.1, frozen_of_row wz _ 3 _ _ h.1⟩
  all_goals (rw [cell_of_row wz w.heap.size _ _ _ _ h.1]; rfl)
theorem Zx.put {w wz : World} (h : Below w.heap.size w wz) (a b c d : Value) : Below w.heap.size w ((((wz.setCell ⟨w.heap.size, 0, none⟩ a).setCell ⟨w.heap.size, 1, none⟩ b).setCell ⟨w.heap.size, 2, none⟩ c).setCell ⟨w.heap.size, 3, none⟩ d) :=
  have hle : w.heap.size ≤ w.heap.size := Nat.le_refl _
  (((h.setCell (p := ⟨w.heap.size, 0, none⟩) hle _).setCell (p := ⟨w.heap.size, 1, none⟩) hle _).setCell (p := ⟨w.heap.size, 2, none⟩) hle _).setCell (p := ⟨w.heap.size, 3, none⟩) hle _

set_option maxRecDepth 100000 in
set_option maxHeartbeats 1000000 in
theorem get_bad (s : ByteArray) (c : Nat) (hc0 : c ≠ 0)
    (h : ∀ w, Calls Try.prog 38 #[.string s] w fun x w' => x = .returned (crV (.int .i64 0) (.int .u64 0) (.string ⟨#[]⟩) (.slice none 0 0) ⟨#[]⟩ c) ∧ Below w.heap.size w w') (w : World) :
    Calls Try.prog 18 #[.string s] w fun x w' => x = .returned (cgV (.int .i64 0) (.int .u64 0) (.string ⟨#[]⟩) (.slice none 0 0) c) ∧ Below w.heap.size w w' := by
  have hq : ((c : Int) != 0) = true := by rw [bne_iff_ne]; omega
  have K1 := Lib.hid h
  have Z0 := Lib.hid (Zx.new w)
  clear h hc0
  go_enter Try.func18, Try.ntmps18
  go_wp2_with fail
  refine (K1.out _).mono ?_
  rintro x w2 ⟨rfl, hb2⟩
  have Z2 := Lib.hid ((Z0.out.later hb2).later (alloc_below w2 (.cells #[.int .i64 0, .int .u64 0, .string ⟨#[]⟩, .slice none 0 0] 27)))
  obtain ⟨c0, c1, c2, c3, f0, f1, f2, f3⟩ := Z2.out.cells
  have hst := store27 w2 0 0 ⟨#[]⟩ none 0 0
  clear hb2
  unfold crV
  go_wp2
  refine bodyPost_ret (v := cgV (.int .i64 0) (.int .u64 0) (.string ⟨#[]⟩) (.slice none 0 0) c) (by simp [results, Try.results18, go_sem, cgV, *]) rfl ⟨rfl, ?_⟩
  exact Zx.put Z2.out.2 _ _ _ _

set_option maxRecDepth 100000 in
set_option maxHeartbeats 1000000 in
theorem get_fine (s : ByteArray) (t : Tr)
    (h : ∀ w, Calls Try.prog 38 #[.string s] w fun x w' => ∃ d0 d1 d2 d3, x = .returned (crV d0 d1 d2 d3 ⟨#[]⟩ 0) ∧ VInP w' (fun b => w.heap.size ≤ b) t d0 d1 d2 d3 ∧ Below w.heap.size w w') (w : World) :
    Calls Try.prog 18 #[.string s] w fun x w' => ∃ d0 d1 d2 d3, x = .returned (cgV d0 d1 d2 d3 0) ∧ VInP w' (fun b => w.heap.size ≤ b) t d0 d1 d2 d3 ∧ Below w.heap.size w w' := by
  have K1 := Lib.hid h
  have Z0 := Lib.hid (Zx.new w)
  have HLT := Lib.hid (alloc_lt w (.cells #[.int .i64 0, .int .u64 0, .string ⟨#[]⟩, .slice none 0 0] 27))
  clear h
  go_enter Try.func18, Try.ntmps18
  go_wp2_with fail
  refine (K1.out _).mono ?_
  rintro x w2 ⟨d0, d1, d2, d3, rfl, hv, hb2⟩
  obtain ⟨k, n, v, o, len, cap, rfl, rfl, rfl, rfl⟩ := hv.cells
  have Z2 := Lib.hid ((Z0.out.later hb2).later (alloc_below w2 (.cells #[.int .i64 k, .int .u64 (n : Int), .string v, .slice o len cap] 27)))
  obtain ⟨c0, c1, c2, c3, f0, f1, f2, f3⟩ := Z2.out.cells
  obtain ⟨e0, e1, e2, e3⟩ := four_new w2 (.int .i64 k) (.int .u64 (n : Int)) (.string v) (.slice o len cap) 27
  have hst := store27 w2 k n v o len cap
  have HV := Lib.hid hv
  have HB2 := Lib.hid hb2
  clear hb2 hv
  unfold crV
  go_wp2
  refine bodyPost_ret (v := cgV (.int .i64 k) (.int .u64 (n : Int)) (.string v) (.slice o len cap) 0) (by simp [results, Try.results18, go_sem, cgV, *]) rfl ⟨_, _, _, _, rfl, ?_, ?_⟩
  · refine VInP.keep (by simp) (fun b' hb' hP => ⟨?_, ?_⟩) _ HV.out
    · have hne : b' ≠ w.heap.size := by have := HLT.out; omega
      rw [setfour b' hne]
      exact (alloc_below w2 _).block b' hb'
    · have := HLT.out; omega
  · exact Zx.put Z2.out.2 _ _ _ _

set_option maxRecDepth 100000 in
set_option maxHeartbeats 1000000 in
theorem get_form (s r : ByteArray) (hr : 1 ≤ r.size)
    (h : ∀ w, Calls Try.prog 38 #[.string s] w fun x w' => ∃ (k : Int) (n : Nat) (v : ByteArray) (o : Option Addr) (len cap : Nat), x = .returned (crV (.int .i64 k) (.int .u64 (n : Int)) (.string v) (.slice o len cap) r 0) ∧ Below w.heap.size w w') (w : World) :
    Calls Try.prog 18 #[.string s] w fun x w' => x = .returned (cgV (.int .i64 0) (.int .u64 0) (.string ⟨#[]⟩) (.slice none 0 0) 4) ∧ Below w.heap.size w w' := by
  have hq := empty_no r hr
  have hq2 : (!r.toList.isEmpty) = true := by rw [hq]; rfl
  have K1 := Lib.hid h
  have Z0 := Lib.hid (Zx.new w)
  clear h hr
  go_enter Try.func18, Try.ntmps18
  go_wp2_with fail
  refine (K1.out _).mono ?_
  rintro x w2 ⟨k, n, v, o, len, cap, rfl, hb2⟩
  have Z2 := Lib.hid ((Z0.out.later hb2).later (alloc_below w2 (.cells #[.int .i64 k, .int .u64 (n : Int), .string v, .slice o len cap] 27)))
  obtain ⟨c0, c1, c2, c3, f0, f1, f2, f3⟩ := Z2.out.cells
  have hst := store27 w2 k n v o len cap
  clear hb2
  unfold crV
  go_wp2
  refine bodyPost_ret (v := cgV (.int .i64 0) (.int .u64 0) (.string ⟨#[]⟩) (.slice none 0 0) 4) (by simp [results, Try.results18, go_sem, cgV, *]) rfl ⟨rfl, ?_⟩
  exact Zx.put Z2.out.2 _ _ _ _

set_option maxRecDepth 100000 in
set_option maxHeartbeats 1000000 in
theorem cnext_fine (s r : ByteArray) (c : Nat) (t : Tr) (hr : r.size ≤ 1000000000)
    (h : ∀ w, Calls Try.prog 38 #[.string s] w fun x w' => ∃ d0 d1 d2 d3, x = .returned (crV d0 d1 d2 d3 r c) ∧ VInP w' (fun b => w.heap.size ≤ b) t d0 d1 d2 d3 ∧ Below w.heap.size w w') (w : World) :
    Calls Try.prog 19 #[.string s] w fun x w' => ∃ d0 d1 d2 d3, x = .returned (crV d0 d1 d2 d3 r c) ∧ VInP w' (fun b => w.heap.size ≤ b) t d0 d1 d2 d3 ∧ Below w.heap.size w w' := by
  have K1 := Lib.hid h
  have K2 := Lib.hid (fun w => clone_any r w hr)
  have Z0 := Lib.hid (Zx.new w)
  have HLT := Lib.hid (alloc_lt w (.cells #[.int .i64 0, .int .u64 0, .string ⟨#[]⟩, .slice none 0 0] 27))
  clear h hr
  go_enter Try.func19, Try.ntmps19
  go_wp2_with fail
  refine (K1.out _).mono ?_
  rintro x w2 ⟨d0, d1, d2, d3, rfl, hv, hb2⟩
  obtain ⟨k, n, v, o, len, cap, rfl, rfl, rfl, rfl⟩ := hv.cells
  have Z2 := Lib.hid (Z0.out.later hb2)
  have hst := store27 w2 k n v o len cap
  have HV := Lib.hid hv
  have HB2 := Lib.hid hb2
  clear hb2 hv
  unfold crV
  go_upto_region 2 with fail
  obtain ⟨wa, hwa⟩ : ∃ wa, wa = w2.alloc (.cells #[.int .i64 k, .int .u64 (n : Int), .string v, .slice o len cap] 27) := ⟨_, rfl⟩
  rw [← hwa]
  have HBA := Lib.hid (show Below w2.heap.size w2 wa by rw [hwa]; exact alloc_below _ _)
  have HXC := Lib.hid (show Bx w2.heap.size (.int .i64 k) (.int .u64 (n : Int)) (.string v) (.slice o len cap) wa by rw [hwa]; exact ⟨four_new _ _ _ _ _ _, alloc_lt _ _⟩)
  have Z3 := Lib.hid (Z2.out.later HBA.out)
  clear hwa hst
  obtain ⟨g0, g1, g2, g3⟩ := HXC.out.1
  have HWD := Lib.hid (show Below wa.heap.size wa wa.drew from (Below.refl _ _).drew)
  go_region_with (first
    | (go_at_call 39; refine (K2.out _).mono ?_; rintro x w3 ⟨rfl, hb3⟩; have hb4 := HWD.out.trans hb3; have Z4 := Lib.hid (Z3.out.later hb4); obtain ⟨c0, c1, c2, c3, f0, f1, f2, f3⟩ := Z4.out.cells; obtain ⟨h0, h1, h2, h3⟩ := (HXC.out.later hb4).1))
  all_goals
    have HBB := Lib.hid (HBA.out.trans (hb4.mono HBA.out.size))
    go_wp2
    refine bodyPost_ret (v := crV (.int .i64 k) (.int .u64 (n : Int)) (.string v) (.slice o len cap) r c) (by simp [results, Try.results19, go_sem, crV, *]) rfl ⟨_, _, _, _, rfl, ?_, ?_⟩
    · refine VInP.keep (by simpa using HBB.out.size) (fun b' hb' hP => ⟨?_, ?_⟩) _ HV.out
      · have hne : b' ≠ w.heap.size := by have := HLT.out; omega
        rw [setfour b' hne]
        exact HBB.out.block b' hb'
      · have := HLT.out; omega
    · exact Zx.put Z4.out.2 _ _ _ _
end Go.Proofs.Ytlochpnifjmefaa
