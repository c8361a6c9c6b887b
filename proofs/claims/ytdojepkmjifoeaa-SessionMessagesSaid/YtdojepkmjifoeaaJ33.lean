/- session.Read. -/
import Derived.Test.YtdojepkmjifoeaaJ22
import Derived.Test.YtdojepkmjifoeaaJ25
import Derived.Test.YtdojepkmjifoeaaJ10
import Derived.Test.YtdojepkmjifoeaaJ32
import Derived.ScopeJumps
set_option linter.unusedVariables false
set_option linter.unusedSimpArgs false
namespace Go.Proofs.Ytdojepkmjifoeaa
open Go.RowKit

/-- What stands in a message's list. -/
def kids (s : ByteArray) : List Tr := match getT (pB s) with | .mk _ _ _ l => l
def msN (s : ByteArray) : List Nat := prN (kids s)
def msB (s : ByteArray) : ByteArray := prB (kids s)
/-- Is a text a message? -/
def okM (s : ByteArray) : Prop := codeP s = 0 ∧ getC (pB s) = 0 ∧ ((msN s).length : Int) = numK (pK s) ∧ fdK (pK s) (msB s) (msN s) = pK s ∧ fdE (pK s) (pE s) (msB s) (msN s) = pE s ∧ fdB (pK s) (msB s) (msN s) = pB s
def rdBad : Value := .tuple #[.int .i64 0, .int .u64 0, .slice none 0 0, .string ⟨#[]⟩, .int .i64 4]
/-- A place from which it goes to the label. -/
def RdJ (w : World) (a : Act) (wz : World) : Prop := ∃ u : Nat → Value, a = ⟨List.toArray [u 0, u 1, u 2, u 3, u 4, u 5, u 6, u 7, u 8, u 9, u 10, u 11, u 12, u 13, u 14, u 15, u 16, u 17, u 18, u 19, u 20, u 21, u 22, u 23, u 24, u 25, u 26, u 27, u 28, u 29, u 30, u 31, u 32, u 33, u 34, u 35, u 36, u 37, u 38, u 39, u 40, u 41, u 42, u 43, u 44, u 45, u 46, u 47, u 48, u 49, u 50, u 51, u 52], []⟩ ∧ Below w.heap.size w wz
theorem RdJ.mk {w wz : World} {a : Act} (h : a = ⟨List.toArray ((List.range 53).map (fun i => a.tmps.getD i undef)), []⟩) (hb : Below w.heap.size w wz) : RdJ w a wz := ⟨fun i => a.tmps.getD i undef, h, hb⟩


theorem pB_le (s : ByteArray) : (pB s).size ≤ s.size := by
  unfold pB rB bodyS
  split
  · split
    · rw [ByteArray.size_extract]; omega
    · exact Nat.zero_le _
  · exact Nat.zero_le _
theorem pK_pos {s : ByteArray} (h : codeP s = 0) : 1 ≤ pK s ∧ pK s ≤ 255 ∧ pE s ≤ 18446744073709551615 := by
  have hc : codeS s = 0 := by
    unfold codeP at h
    split at h
    · assumption
    · exact h
  obtain ⟨_, _, h1, h2, _⟩ := code_ok hc
  obtain ⟨r1, r2, _⟩ := r_ok hc
  unfold pK pE
  rw [if_pos h, if_pos h, r1, r2]
  refine ⟨h1, h2, ?_⟩
  have hg := gt_lt (s.extract 4 12).data.toList
  unfold epS
  have hl : (s.extract 4 12).data.toList.length ≤ 8 := by rw [ext_list]; simp; omega
  have h3 : 256 ^ (s.extract 4 12).data.toList.length ≤ 256 ^ 8 := Nat.pow_le_pow_right (by omega) hl
  have h4 : (256 : Nat) ^ 8 = 18446744073709551616 := by decide
  omega
theorem prN_le {w : World} {k : Int} {n : Nat} {s : ByteArray} {l : List Tr} {c0 c1 c2 c3 : Value} (h : VIn w (.mk k n s l) c0 c1 c2 c3) : (∀ x ∈ prN l, x ≤ 18446744073709551615) ∧ (prB l).size ≤ 1000000000 ∧ l.length ≤ 1000000 := by
  unfold VIn at h
  obtain ⟨_, _, _, _, ⟨_, hz⟩, o, cap, b, off, h3, ho, hl⟩ := h
  have each : ∀ t ∈ l, match t with | .mk _ n s _ => n ≤ 18446744073709551615 ∧ s.size ≤ 1000000000 := by
    intro t ht
    obtain ⟨i, hi, rfl⟩ := List.mem_iff_getElem.1 ht
    obtain ⟨d0, d1, d2, d3, _, _, _, _, hv⟩ := hl.at i hi
    revert hv
    generalize l[i] = t
    obtain ⟨k', n', s', l'⟩ := t
    intro hv
    unfold VIn at hv
    obtain ⟨_, _, h1, _, ⟨h2, _⟩, _⟩ := hv
    exact ⟨h1, h2⟩
  clear hl h3 ho
  refine ⟨?_, ?_, hz⟩
  · intro x hx
    unfold prN at hx
    rw [List.mem_filterMap] at hx
    obtain ⟨⟨k', n', s', l'⟩, ht, he⟩ := hx
    have h1 := each _ ht
    simp only at he
    split at he
    · cases he; exact h1.1
    · cases he
  · unfold prB
    suffices hs : ∀ (b : ByteArray), b.size ≤ 1000000000 → (l.foldl (fun b t => match t with | .mk k _ s _ => if k = 2 then s else b) b).size ≤ 1000000000 from hs _ (by simp [ByteArray.size])
    clear hz
    induction l with
    | nil => intro b hb; exact hb
    | cons t l ih =>
      intro b hb
      rw [List.foldl_cons]
      refine ih (fun t ht => each t (List.mem_cons_of_mem _ ht)) _ ?_
      have h1 := each t List.mem_cons_self
      obtain ⟨k', n', s', l'⟩ := t
      simp only at h1 ⊢
      split
      · exact h1.2
      · exact hb
theorem NRow.ins {ρ : Option Nat} {o : Option Addr} {cap : Nat} {xs : List Nat} {w : World} (h : NRow ρ o cap xs w) (hx : ∀ x ∈ xs, x ≤ 18446744073709551615) : ∃ B, (0 < xs.length → o = some ⟨B, 0, none⟩ ∧ B < w.heap.size) ∧ NsIn w B 0 xs := by
  by_cases h0 : 0 < xs.length
  · obtain ⟨r, hr, ho, _⟩ := h.cell 0 h0
    refine ⟨r, fun _ => ⟨ho, h.lt r hr⟩, fun i hi => ⟨?_, hx _ (List.getElem_mem hi)⟩⟩
    obtain ⟨r2, hr2, _, hc⟩ := h.cell i hi
    rw [hr] at hr2
    cases hr2
    rw [Nat.zero_add]
    exact hc
  · exact ⟨0, fun h => absurd h h0, fun i hi => absurd hi (by omega)⟩

set_option maxRecDepth 100000 in
set_option maxHeartbeats 8000000 in
theorem read_p (s : ByteArray) (hs : s.size ≤ 1000000000) (hc : codeP s ≠ 0) (w : World) : Calls Try.prog 9 #[.string s] w fun r w' => r = .returned rdBad ∧ Below w.heap.size w w' := by
  have K24 := Lib.hid (fun w => parse_any s hs w)
  have t1 : ((codeP s : Int) == 0) = false := by rw [beq_eq_false_iff_ne]; omega
  generalize codeP s = c at *
  clear hc hs
  generalize pK s = k at *
  generalize pE s = e at *
  generalize pB s = b at *
  unfold paV at K24
  have HBL := Lib.hid (alloc_below w (.cells #[.int .i64 0, .int .u64 0, .string ⟨#[]⟩, .slice none 0 0] 69))
  have HBX := Lib.hid (show Bx w.heap.size (.int .i64 0) (.int .u64 0) (.string ⟨#[]⟩) (.slice none 0 0) (w.alloc (.cells #[.int .i64 0, .int .u64 0, .string ⟨#[]⟩, .slice none 0 0] 69)) from ⟨four_new _ _ _ _ _ _, alloc_lt _ _⟩)
  have HH := Lib.hid (heap_alloc_new w (.cells #[.int .i64 0, .int .u64 0, .string ⟨#[]⟩, .slice none 0 0] 69))
  go_enter Try.func9, Try.ntmps9
  go_wp2_with fail
  refine wp_scope_jumps 0 (RdJ w) (fun _ _ => 0) rfl ?_ ?_
  · go_wp2_with (first
      | (go_at_call 24; ((with_reducible refine (K24.out _).mono ?_); rintro x w1 ⟨rfl, hb1⟩; have HB1 := Lib.hid (HBL.out.trans (hb1.mono HBL.out.size)); clear hb1)))
    go_step3
    exact ⟨rfl, RdJ.mk rfl (HB1.out.alloc HB1.out.size _)⟩
  · rintro a wz ⟨u, rfl, hb⟩
    go_wp2
    simp only [Exit.jump]
    exact bodyPost_ret (v := rdBad) (by simp [results, Try.results9, go_sem, rdBad]) rfl ⟨rfl, hb⟩

set_option maxRecDepth 100000 in
set_option maxHeartbeats 8000000 in
theorem read_g (s : ByteArray) (hs : s.size ≤ 1000000000) (hc : codeP s = 0) (hg : getC (pB s) ≠ 0) (w : World) : Calls Try.prog 9 #[.string s] w fun r w' => r = .returned rdBad ∧ Below w.heap.size w w' := by
  have K24 := Lib.hid (fun w => parse_any s hs w)
  have K25 := Lib.hid (fun w => cget_any (pB s) (Nat.le_trans (pB_le s) hs) w)
  unfold cgV at K25
  have HKP := Lib.hid (pK_pos hc)
  rw [hc] at K24
  have t2 : ((getC (pB s) : Int) == 0) = false := by rw [beq_eq_false_iff_ne]; omega
  generalize getC (pB s) = gc at *
  generalize getT (pB s) = gt at *
  generalize pK s = k at *
  generalize pE s = e at *
  generalize pB s = b at *
  clear hg
  clear hs hc
  unfold paV at K24
  have HBL := Lib.hid (alloc_below w (.cells #[.int .i64 0, .int .u64 0, .string ⟨#[]⟩, .slice none 0 0] 69))
  have HBX := Lib.hid (show Bx w.heap.size (.int .i64 0) (.int .u64 0) (.string ⟨#[]⟩) (.slice none 0 0) (w.alloc (.cells #[.int .i64 0, .int .u64 0, .string ⟨#[]⟩, .slice none 0 0] 69)) from ⟨four_new _ _ _ _ _ _, alloc_lt _ _⟩)
  have HH := Lib.hid (heap_alloc_new w (.cells #[.int .i64 0, .int .u64 0, .string ⟨#[]⟩, .slice none 0 0] 69))
  go_enter Try.func9, Try.ntmps9
  go_wp2_with fail
  refine wp_scope_jumps 0 (RdJ w) (fun _ _ => 0) rfl ?_ ?_
  · go_upto_region 7 with (first
      | (go_at_call 24; ((with_reducible refine (K24.out _).mono ?_); rintro x w1 ⟨rfl, hb1⟩; have HB1 := Lib.hid (HBL.out.trans (hb1.mono HBL.out.size)); have HX1 := Lib.hid (HBX.out.later hb1); have HH1 := Lib.hid ((hb1.block _ (lt_of_heap HH.out)).trans HH.out); obtain ⟨p0, p1, p2⟩ := Fr.new w1 (k : Int) e b; clear hb1))
      | (go_at_call 25; ((with_reducible refine (K25.out _).mono ?_); rintro x w2 ⟨d0, d1, d2, d3, rfl, hv, hb2, hz⟩; obtain ⟨k', n', v', oL, len, cap, rfl, rfl, rfl, rfl⟩ := hv.cells; have hba : Below w1.heap.size w1 w2 := (alloc_below w1 _).trans (hb2.mono (alloc_below w1 _).size); obtain ⟨p0, p1, p2⟩ := (Fr.new w1 (k : Int) e b).below hb2 (alloc_lt _ _); have HB2 := Lib.hid (HB1.out.trans (hba.mono HB1.out.size)); obtain ⟨c0, c1, c2, c3⟩ := (HX1.out.later hba).1; have b1 := (hba.block _ (lt_of_heap HH1.out)).trans HH1.out; have y0 := frozen_of_row w2 w.heap.size 0 _ _ b1; have y1 := frozen_of_row w2 w.heap.size 1 _ _ b1; have y2 := frozen_of_row w2 w.heap.size 2 _ _ b1; have y3 := frozen_of_row w2 w.heap.size 3 _ _ b1; have HV := Lib.hid hv; have HLT := Lib.hid (show w.heap.size < w1.heap.size ∧ w1.heap.size < w2.heap.size from ⟨HX1.out.2, Nat.lt_of_lt_of_le (alloc_lt w1 _) hb2.size⟩); clear hb2 hba b1 hv hz)))
    go_wp2
    go_step3
    have hle : w.heap.size ≤ w.heap.size := Nat.le_refl _
    exact ⟨rfl, RdJ.mk rfl ((((HB2.out.setCell (p := ⟨w.heap.size, 0, none⟩) hle _).setCell (p := ⟨w.heap.size, 1, none⟩) hle _).setCell (p := ⟨w.heap.size, 2, none⟩) hle _).setCell (p := ⟨w.heap.size, 3, none⟩) hle _)⟩
  · rintro a wz ⟨u, rfl, hb⟩
    go_wp2
    simp only [Exit.jump]
    exact bodyPost_ret (v := rdBad) (by simp [results, Try.results9, go_sem, rdBad]) rfl ⟨rfl, hb⟩

set_option maxRecDepth 100000 in
set_option maxHeartbeats 8000000 in
theorem read_n (s : ByteArray) (hs : s.size ≤ 1000000000) (hc : codeP s = 0) (hg : getC (pB s) = 0) {gk : Int} {gn : Nat} {gs : ByteArray} {l : List Tr} (hgt : getT (pB s) = .mk gk gn gs l) (hn : ((prN l).length : Int) ≠ numK (pK s)) (w : World) : Calls Try.prog 9 #[.string s] w fun r w' => r = .returned rdBad ∧ Below w.heap.size w w' := by
  have K24 := Lib.hid (fun w => parse_any s hs w)
  have K25 := Lib.hid (fun w => cget_any (pB s) (Nat.le_trans (pB_le s) hs) w)
  unfold cgV at K25
  have HKP := Lib.hid (pK_pos hc)
  rw [hc] at K24
  rw [hg] at K25
  have HGT := Lib.hid hgt
  clear hg hgt
  have K27 := Lib.hid (fun w => numbers_any (pK s : Int) w)
  have t3 : (((prN l).length : Int) == numK (pK s)) = false := by rw [beq_eq_false_iff_ne]; exact hn
  clear hn
  generalize numK (pK s) = nk at *
  generalize pK s = k at *
  generalize pE s = e at *
  generalize pB s = b at *

  clear hs hc
  unfold paV at K24
  have HBL := Lib.hid (alloc_below w (.cells #[.int .i64 0, .int .u64 0, .string ⟨#[]⟩, .slice none 0 0] 69))
  have HBX := Lib.hid (show Bx w.heap.size (.int .i64 0) (.int .u64 0) (.string ⟨#[]⟩) (.slice none 0 0) (w.alloc (.cells #[.int .i64 0, .int .u64 0, .string ⟨#[]⟩, .slice none 0 0] 69)) from ⟨four_new _ _ _ _ _ _, alloc_lt _ _⟩)
  have HH := Lib.hid (heap_alloc_new w (.cells #[.int .i64 0, .int .u64 0, .string ⟨#[]⟩, .slice none 0 0] 69))
  go_enter Try.func9, Try.ntmps9
  go_wp2_with fail
  refine wp_scope_jumps 0 (RdJ w) (fun _ _ => 0) rfl ?_ ?_
  · go_upto_region 7 with (first
      | (go_at_call 24; ((with_reducible refine (K24.out _).mono ?_); rintro x w1 ⟨rfl, hb1⟩; have HB1 := Lib.hid (HBL.out.trans (hb1.mono HBL.out.size)); have HX1 := Lib.hid (HBX.out.later hb1); have HH1 := Lib.hid ((hb1.block _ (lt_of_heap HH.out)).trans HH.out); obtain ⟨p0, p1, p2⟩ := Fr.new w1 (k : Int) e b; clear hb1))
      | (go_at_call 25; ((with_reducible refine (K25.out _).mono ?_); rintro x w2 ⟨d0, d1, d2, d3, rfl, hv, hb2, hz⟩; obtain ⟨k', n', v', oL, len, cap, rfl, rfl, rfl, rfl⟩ := hv.cells; have hba : Below w1.heap.size w1 w2 := (alloc_below w1 _).trans (hb2.mono (alloc_below w1 _).size); obtain ⟨p0, p1, p2⟩ := (Fr.new w1 (k : Int) e b).below hb2 (alloc_lt _ _); have HB2 := Lib.hid (HB1.out.trans (hba.mono HB1.out.size)); obtain ⟨c0, c1, c2, c3⟩ := (HX1.out.later hba).1; have b1 := (hba.block _ (lt_of_heap HH1.out)).trans HH1.out; have y0 := frozen_of_row w2 w.heap.size 0 _ _ b1; have y1 := frozen_of_row w2 w.heap.size 1 _ _ b1; have y2 := frozen_of_row w2 w.heap.size 2 _ _ b1; have y3 := frozen_of_row w2 w.heap.size 3 _ _ b1; have HV := Lib.hid hv; have HLT := Lib.hid (show w.heap.size < w1.heap.size ∧ w1.heap.size < w2.heap.size from ⟨HX1.out.2, Nat.lt_of_lt_of_le (alloc_lt w1 _) hb2.size⟩); clear hb2 hba b1 hv hz)))
    have hle : w.heap.size ≤ w.heap.size := Nat.le_refl _
    have HB5 := Lib.hid ((((HB2.out.setCell (p := ⟨w.heap.size, 0, none⟩) hle (.int .i64 k')).setCell (p := ⟨w.heap.size, 1, none⟩) hle (.int .u64 (n' : Int))).setCell (p := ⟨w.heap.size, 2, none⟩) hle (.string v')).setCell (p := ⟨w.heap.size, 3, none⟩) hle (.slice oL len cap))
    have HV5 := Lib.hid (VInP.plain _ (VInP.keep (w' := (((w2.setCell ⟨w.heap.size, 0, none⟩ (.int .i64 k')).setCell ⟨w.heap.size, 1, none⟩ (.int .u64 (n' : Int))).setCell ⟨w.heap.size, 2, none⟩ (.string v')).setCell ⟨w.heap.size, 3, none⟩ (.slice oL len cap)) (Q := fun _ => True) (by simp) (fun b' _ hP => ⟨setfour b' (by have := HLT.out.1; have h9 := hP; simp at h9; omega), trivial⟩) _ HV.out))
    have x0 : ((((w2.setCell ⟨w.heap.size, 0, none⟩ (.int .i64 k')).setCell ⟨w.heap.size, 1, none⟩ (.int .u64 (n' : Int))).setCell ⟨w.heap.size, 2, none⟩ (.string v')).setCell ⟨w.heap.size, 3, none⟩ (.slice oL len cap)).cell? ⟨w.heap.size, 0, none⟩ = some (.int .i64 k') := by simp [go_sem, *]
    have x1 : ((((w2.setCell ⟨w.heap.size, 0, none⟩ (.int .i64 k')).setCell ⟨w.heap.size, 1, none⟩ (.int .u64 (n' : Int))).setCell ⟨w.heap.size, 2, none⟩ (.string v')).setCell ⟨w.heap.size, 3, none⟩ (.slice oL len cap)).cell? ⟨w.heap.size, 1, none⟩ = some (.int .u64 (n' : Int)) := by simp [go_sem, *]
    have x2 : ((((w2.setCell ⟨w.heap.size, 0, none⟩ (.int .i64 k')).setCell ⟨w.heap.size, 1, none⟩ (.int .u64 (n' : Int))).setCell ⟨w.heap.size, 2, none⟩ (.string v')).setCell ⟨w.heap.size, 3, none⟩ (.slice oL len cap)).cell? ⟨w.heap.size, 2, none⟩ = some (.string v') := by simp [go_sem, *]
    have x3 : ((((w2.setCell ⟨w.heap.size, 0, none⟩ (.int .i64 k')).setCell ⟨w.heap.size, 1, none⟩ (.int .u64 (n' : Int))).setCell ⟨w.heap.size, 2, none⟩ (.string v')).setCell ⟨w.heap.size, 3, none⟩ (.slice oL len cap)).cell? ⟨w.heap.size, 3, none⟩ = some (.slice oL len cap) := by simp [go_sem, *]
    have hq : ((((w2.setCell ⟨w.heap.size, 0, none⟩ (.int .i64 k')).setCell ⟨w.heap.size, 1, none⟩ (.int .u64 (n' : Int))).setCell ⟨w.heap.size, 2, none⟩ (.string v')).setCell ⟨w.heap.size, 3, none⟩ (.slice oL len cap)).heap[w1.heap.size]? = w2.heap[w1.heap.size]? := setfour _ (by have := HLT.out; omega)
    have HF5 := Lib.hid (show Fr ((((w2.setCell ⟨w.heap.size, 0, none⟩ (.int .i64 k')).setCell ⟨w.heap.size, 1, none⟩ (.int .u64 (n' : Int))).setCell ⟨w.heap.size, 2, none⟩ (.string v')).setCell ⟨w.heap.size, 3, none⟩ (.slice oL len cap)) w1.heap.size k e b from ⟨(World.cell?_of_block (a := ⟨w1.heap.size, 0, none⟩) hq).trans p0, (World.cell?_of_block (a := ⟨w1.heap.size, 1, none⟩) hq).trans p1, (World.cell?_of_block (a := ⟨w1.heap.size, 2, none⟩) hq).trans p2⟩)
    have HS5 : Hid (w1.heap.size < ((((w2.setCell ⟨w.heap.size, 0, none⟩ (.int .i64 k')).setCell ⟨w.heap.size, 1, none⟩ (.int .u64 (n' : Int))).setCell ⟨w.heap.size, 2, none⟩ (.string v')).setCell ⟨w.heap.size, 3, none⟩ (.slice oL len cap)).heap.size) := Lib.hid (by simpa using HLT.out.2)
    generalize ((((w2.setCell ⟨w.heap.size, 0, none⟩ (.int .i64 k')).setCell ⟨w.heap.size, 1, none⟩ (.int .u64 (n' : Int))).setCell ⟨w.heap.size, 2, none⟩ (.string v')).setCell ⟨w.heap.size, 3, none⟩ (.slice oL len cap)) = w5 at *
    clear c0 c1 c2 c3 y0 y1 y2 y3 p0 p1 p2 hq hle
    have hv5 := HV5.out
    rw [HGT.out] at hv5
    have HK26 := Lib.hid (parts_any _ _ _ _ _ _ _ _ _ hv5)
    have HLE := Lib.hid (prN_le hv5)
    clear hv5
    generalize w1.heap.size = g1 at *
    generalize (prN l).length = q at *
    go_wp2_with (first
      | (go_at_call 26; ((with_reducible refine (HK26.out).mono ?_); rintro x w6 ⟨ρ, oN, capN, rfl, hpa⟩; have HPA := Lib.hid hpa; have HB6 := Lib.hid (HB5.out.trans (hpa.1.mono HB5.out.size)); have HF6 := Lib.hid (HF5.out.below hpa.1 HS5.out); obtain ⟨p0, p1, p2⟩ := HF6.out; clear hpa))
      | (go_at_call 27; ((with_reducible refine (K27.out _).mono ?_); rintro x w7 ⟨rfl, rfl⟩)))
    go_step3
    exact ⟨rfl, RdJ.mk rfl HB6.out⟩
  · rintro a wz ⟨u, rfl, hb⟩
    go_wp2
    simp only [Exit.jump]
    exact bodyPost_ret (v := rdBad) (by simp [results, Try.results9, go_sem, rdBad]) rfl ⟨rfl, hb⟩

theorem below_tr {w a b : World} (h : Hid (Below w.heap.size w a)) (hb : Below a.heap.size a b) : Below w.heap.size w b := h.out.trans (hb.mono h.out.size)
theorem PaW.base {w w5 wr : World} {ρ : Option Nat} {oo : Option Addr} {cap : Nat} {xs : List Nat} (h : PaW w5 ρ oo cap xs wr) (hb : Below w.heap.size w w5) : PaW w ρ oo cap xs wr := ⟨hb.trans (h.1.mono hb.size), h.2.1, fun r hr => Nat.le_trans hb.size (h.2.2 r hr)⟩

set_option maxRecDepth 100000 in
set_option maxHeartbeats 8000000 in
theorem read_d1 (s : ByteArray) (hs : s.size ≤ 1000000000) (hc : codeP s = 0) (hg : getC (pB s) = 0) {gk : Int} {gn : Nat} {gs : ByteArray} {l : List Tr} (hgt : getT (pB s) = .mk gk gn gs l) (hn : ((prN l).length : Int) = numK (pK s)) (hf : ¬ fdOk (pK s) (prB l) (prN l)) (w : World) : Calls Try.prog 9 #[.string s] w fun r w' => r = .returned rdBad ∧ Below w.heap.size w w' := by
  have K24 := Lib.hid (fun w => parse_any s hs w)
  have K25 := Lib.hid (fun w => cget_any (pB s) (Nat.le_trans (pB_le s) hs) w)
  unfold cgV at K25
  have HKP := Lib.hid (pK_pos hc)
  rw [hc] at K24
  rw [hg] at K25
  have HGT := Lib.hid hgt
  clear hg hgt
  have K27 := Lib.hid (fun w => numbers_any (pK s : Int) w)
  rw [← hn] at K27
  clear hn
  obtain ⟨pn, hpn⟩ : ∃ z, z = prN l := ⟨_, rfl⟩
  obtain ⟨pb, hpb⟩ : ∃ z, z = prB l := ⟨_, rfl⟩
  have HFD : Hid (fdK (pK s) (prB l) (prN l) = 0 ∧ fdE (pK s) (pE s) (prB l) (prN l) = 0 ∧ fdB (pK s) (prB l) (prN l) = ⟨#[]⟩) := Lib.hid (by unfold fdK fdE fdB; rw [if_neg hf, if_neg hf, if_neg hf]; exact ⟨rfl, rfl, rfl⟩)
  have t4 : ((0 : Int) == (pK s : Int)) = false := by rw [beq_eq_false_iff_ne]; have := (pK_pos hc).1; omega
  clear hf
  rw [← hpn, ← hpb] at HFD
  have HPN := Lib.hid (And.intro hpn hpb)
  rw [← hpn] at K27
  obtain ⟨q, hq⟩ : ∃ z, z = pn.length := ⟨_, rfl⟩
  rw [← hq] at K27
  have HQ : Hid (pn.length = q) := Lib.hid hq.symm
  have hq0 := hq.trans (congrArg List.length hpn)
  clear hpn hpb hq hq0
  generalize pK s = k at *
  generalize pE s = e at *
  generalize pB s = b at *

  clear hs hc
  unfold paV at K24
  have HBL := Lib.hid (alloc_below w (.cells #[.int .i64 0, .int .u64 0, .string ⟨#[]⟩, .slice none 0 0] 69))
  have HBX := Lib.hid (show Bx w.heap.size (.int .i64 0) (.int .u64 0) (.string ⟨#[]⟩) (.slice none 0 0) (w.alloc (.cells #[.int .i64 0, .int .u64 0, .string ⟨#[]⟩, .slice none 0 0] 69)) from ⟨four_new _ _ _ _ _ _, alloc_lt _ _⟩)
  have HH := Lib.hid (heap_alloc_new w (.cells #[.int .i64 0, .int .u64 0, .string ⟨#[]⟩, .slice none 0 0] 69))
  go_enter Try.func9, Try.ntmps9
  go_wp2_with fail
  refine wp_scope_jumps 0 (RdJ w) (fun _ _ => 0) rfl ?_ ?_
  · go_upto_region 7 with (first
      | (go_at_call 24; ((with_reducible refine (K24.out _).mono ?_); rintro x w1 ⟨rfl, hb1⟩; have HB1 := Lib.hid (HBL.out.trans (hb1.mono HBL.out.size)); have HX1 := Lib.hid (HBX.out.later hb1); have HH1 := Lib.hid ((hb1.block _ (lt_of_heap HH.out)).trans HH.out); obtain ⟨p0, p1, p2⟩ := Fr.new w1 (k : Int) e b; clear hb1))
      | (go_at_call 25; ((with_reducible refine (K25.out _).mono ?_); rintro x w2 ⟨d0, d1, d2, d3, rfl, hv, hb2, hz⟩; obtain ⟨k', n', v', oL, len, cap, rfl, rfl, rfl, rfl⟩ := hv.cells; have hba : Below w1.heap.size w1 w2 := (alloc_below w1 _).trans (hb2.mono (alloc_below w1 _).size); obtain ⟨p0, p1, p2⟩ := (Fr.new w1 (k : Int) e b).below hb2 (alloc_lt _ _); have HB2 := Lib.hid (HB1.out.trans (hba.mono HB1.out.size)); obtain ⟨c0, c1, c2, c3⟩ := (HX1.out.later hba).1; have b1 := (hba.block _ (lt_of_heap HH1.out)).trans HH1.out; have y0 := frozen_of_row w2 w.heap.size 0 _ _ b1; have y1 := frozen_of_row w2 w.heap.size 1 _ _ b1; have y2 := frozen_of_row w2 w.heap.size 2 _ _ b1; have y3 := frozen_of_row w2 w.heap.size 3 _ _ b1; have HV := Lib.hid hv; have HLT := Lib.hid (show w.heap.size < w1.heap.size ∧ w1.heap.size < w2.heap.size from ⟨HX1.out.2, Nat.lt_of_lt_of_le (alloc_lt w1 _) hb2.size⟩); clear hb2 hba b1 hv hz)))
    have hle : w.heap.size ≤ w.heap.size := Nat.le_refl _
    have HB5 := Lib.hid ((((HB2.out.setCell (p := ⟨w.heap.size, 0, none⟩) hle (.int .i64 k')).setCell (p := ⟨w.heap.size, 1, none⟩) hle (.int .u64 (n' : Int))).setCell (p := ⟨w.heap.size, 2, none⟩) hle (.string v')).setCell (p := ⟨w.heap.size, 3, none⟩) hle (.slice oL len cap))
    have HV5 := Lib.hid (VInP.plain _ (VInP.keep (w' := (((w2.setCell ⟨w.heap.size, 0, none⟩ (.int .i64 k')).setCell ⟨w.heap.size, 1, none⟩ (.int .u64 (n' : Int))).setCell ⟨w.heap.size, 2, none⟩ (.string v')).setCell ⟨w.heap.size, 3, none⟩ (.slice oL len cap)) (Q := fun _ => True) (by simp) (fun b' _ hP => ⟨setfour b' (by have := HLT.out.1; have h9 := hP; simp at h9; omega), trivial⟩) _ HV.out))
    have x0 : ((((w2.setCell ⟨w.heap.size, 0, none⟩ (.int .i64 k')).setCell ⟨w.heap.size, 1, none⟩ (.int .u64 (n' : Int))).setCell ⟨w.heap.size, 2, none⟩ (.string v')).setCell ⟨w.heap.size, 3, none⟩ (.slice oL len cap)).cell? ⟨w.heap.size, 0, none⟩ = some (.int .i64 k') := by simp [go_sem, *]
    have x1 : ((((w2.setCell ⟨w.heap.size, 0, none⟩ (.int .i64 k')).setCell ⟨w.heap.size, 1, none⟩ (.int .u64 (n' : Int))).setCell ⟨w.heap.size, 2, none⟩ (.string v')).setCell ⟨w.heap.size, 3, none⟩ (.slice oL len cap)).cell? ⟨w.heap.size, 1, none⟩ = some (.int .u64 (n' : Int)) := by simp [go_sem, *]
    have x2 : ((((w2.setCell ⟨w.heap.size, 0, none⟩ (.int .i64 k')).setCell ⟨w.heap.size, 1, none⟩ (.int .u64 (n' : Int))).setCell ⟨w.heap.size, 2, none⟩ (.string v')).setCell ⟨w.heap.size, 3, none⟩ (.slice oL len cap)).cell? ⟨w.heap.size, 2, none⟩ = some (.string v') := by simp [go_sem, *]
    have x3 : ((((w2.setCell ⟨w.heap.size, 0, none⟩ (.int .i64 k')).setCell ⟨w.heap.size, 1, none⟩ (.int .u64 (n' : Int))).setCell ⟨w.heap.size, 2, none⟩ (.string v')).setCell ⟨w.heap.size, 3, none⟩ (.slice oL len cap)).cell? ⟨w.heap.size, 3, none⟩ = some (.slice oL len cap) := by simp [go_sem, *]
    have hq : ((((w2.setCell ⟨w.heap.size, 0, none⟩ (.int .i64 k')).setCell ⟨w.heap.size, 1, none⟩ (.int .u64 (n' : Int))).setCell ⟨w.heap.size, 2, none⟩ (.string v')).setCell ⟨w.heap.size, 3, none⟩ (.slice oL len cap)).heap[w1.heap.size]? = w2.heap[w1.heap.size]? := setfour _ (by have := HLT.out; omega)
    have HF5 := Lib.hid (show Fr ((((w2.setCell ⟨w.heap.size, 0, none⟩ (.int .i64 k')).setCell ⟨w.heap.size, 1, none⟩ (.int .u64 (n' : Int))).setCell ⟨w.heap.size, 2, none⟩ (.string v')).setCell ⟨w.heap.size, 3, none⟩ (.slice oL len cap)) w1.heap.size k e b from ⟨(World.cell?_of_block (a := ⟨w1.heap.size, 0, none⟩) hq).trans p0, (World.cell?_of_block (a := ⟨w1.heap.size, 1, none⟩) hq).trans p1, (World.cell?_of_block (a := ⟨w1.heap.size, 2, none⟩) hq).trans p2⟩)
    have HS5 : Hid (w1.heap.size < ((((w2.setCell ⟨w.heap.size, 0, none⟩ (.int .i64 k')).setCell ⟨w.heap.size, 1, none⟩ (.int .u64 (n' : Int))).setCell ⟨w.heap.size, 2, none⟩ (.string v')).setCell ⟨w.heap.size, 3, none⟩ (.slice oL len cap)).heap.size) := Lib.hid (by simpa using HLT.out.2)
    generalize ((((w2.setCell ⟨w.heap.size, 0, none⟩ (.int .i64 k')).setCell ⟨w.heap.size, 1, none⟩ (.int .u64 (n' : Int))).setCell ⟨w.heap.size, 2, none⟩ (.string v')).setCell ⟨w.heap.size, 3, none⟩ (.slice oL len cap)) = w5 at *
    clear c0 c1 c2 c3 y0 y1 y2 y3 p0 p1 p2 hq hle
    have hv5 := HV5.out
    rw [HGT.out] at hv5
    have HK26 := Lib.hid (parts_any _ _ _ _ _ _ _ _ _ hv5)
    have HLE := Lib.hid (prN_le hv5)
    clear hv5
    generalize w1.heap.size = g1 at *
    rw [← HPN.out.1, ← HPN.out.2] at HK26 HLE
    rw [HQ.out] at HK26
    go_upto_region 10 with (first
      | (go_at_call 26; ((with_reducible refine (HK26.out).mono ?_); rintro x w6 ⟨ρ, oN, capN, rfl, hpa⟩; have HPA := Lib.hid hpa; have HB6 := Lib.hid (HB5.out.trans (hpa.1.mono HB5.out.size)); have HF6 := Lib.hid (HF5.out.below hpa.1 HS5.out); obtain ⟨p0, p1, p2⟩ := HF6.out; clear hpa))
      | (go_at_call 27; ((with_reducible refine (K27.out _).mono ?_); rintro x w7 ⟨rfl, rfl⟩)))
    have HNI := HPA.out.2.1.ins HLE.out.1
    obtain ⟨BN, hBN, hNI⟩ := HNI
    have K20 : Hid (∀ wz, Hid (Below w6.heap.size w6 wz) → Calls Try.prog 20 #[.int .i64 (k : Int), .int .u64 (e : Int), .string pb, .slice oN q capN] wz fun r w' => r = .returned (.agg #[.int .i64 0, .int .u64 ((0 : Nat) : Int), .string ⟨#[]⟩]) ∧ Below wz.heap.size wz w') := Lib.hid (fun wz hz => by
      have h := framed_any (k : Int) e pb pn oN capN BN 0 HLE.out.2.1 wz (fun hp => ⟨(hBN hp).1, Nat.lt_of_lt_of_le (hBN hp).2 hz.out.size⟩) (fun i hi => ⟨(hz.out.cell (p := ⟨BN, 0 + i, none⟩) (hBN (by omega)).2).trans (hNI i hi).1, (hNI i hi).2⟩)
      rw [HQ.out] at h
      rw [HFD.out.1, HFD.out.2.1, HFD.out.2.2] at h
      exact h)
    have mk : Hid (∀ wz, Below w6.heap.size w6 wz → (wz.cell? ⟨g1, 0, none⟩ = some (.int .i64 (k : Int)) ∧ wz.cell? ⟨g1, 1, none⟩ = some (.int .u64 (e : Int)) ∧ wz.cell? ⟨g1, 2, none⟩ = some (.string b) ∧ Hid (Below w6.heap.size w6 wz))) := Lib.hid (fun wz h => ⟨(h.cell (p := ⟨g1, 0, none⟩) (World.block_lt_of_cell? _ _ p0)).trans p0, (h.cell (p := ⟨g1, 1, none⟩) (World.block_lt_of_cell? _ _ p1)).trans p1, (h.cell (p := ⟨g1, 2, none⟩) (World.block_lt_of_cell? _ _ p2)).trans p2, Lib.hid h⟩)
    have hst := Lib.hid (show Below w6.heap.size w6 w6.drew from (Below.refl _ _).drew)
    clear hBN hNI p0 p1 p2
    go_upto_region 10 with fail
    go_region_held3 (fun wz => wz.cell? ⟨g1, 0, none⟩ = some (.int .i64 (k : Int)) ∧ wz.cell? ⟨g1, 1, none⟩ = some (.int .u64 (e : Int)) ∧ wz.cell? ⟨g1, 2, none⟩ = some (.string b) ∧ Hid (Below w6.heap.size w6 wz))
      (first | exact mk.out _ hst.out | (refine mk.out _ (below_tr ?_ (by assumption)); go_split_ands; assumption) | (refine mk.out _ ?_; go_split_ands; (refine Hid.out ?_; assumption)))
      (first | (go_at_call 20; ((with_reducible refine (K20.out _ ?_).mono ?_); (go_split_ands; assumption); rintro x w8 ⟨rfl, hb8⟩)))
    all_goals
      have HB8 : Hid (Below w6.heap.size w6 w8) := by go_split_ands; assumption
      try simp only [Exit.then]
      try apply_assumption
      go_wp2
      go_step3
      exact ⟨rfl, RdJ.mk rfl (HB6.out.trans (HB8.out.mono HB6.out.size))⟩
  · rintro a wz ⟨u, rfl, hb⟩
    go_wp2
    simp only [Exit.jump]
    exact bodyPost_ret (v := rdBad) (by simp [results, Try.results9, go_sem, rdBad]) rfl ⟨rfl, hb⟩

set_option maxRecDepth 100000 in
set_option maxHeartbeats 8000000 in
theorem read_d3 (s : ByteArray) (hs : s.size ≤ 1000000000) (hc : codeP s = 0) (hg : getC (pB s) = 0) {gk : Int} {gn : Nat} {gs : ByteArray} {l : List Tr} (hgt : getT (pB s) = .mk gk gn gs l) (hn : ((prN l).length : Int) = numK (pK s)) (hf : fdOk (pK s) (prB l) (prN l)) (hp : putS (rowT (pK s) (prB l) (prN l)) ≠ pB s) (w : World) : Calls Try.prog 9 #[.string s] w fun r w' => r = .returned rdBad ∧ Below w.heap.size w w' := by
  have K24 := Lib.hid (fun w => parse_any s hs w)
  have K25 := Lib.hid (fun w => cget_any (pB s) (Nat.le_trans (pB_le s) hs) w)
  unfold cgV at K25
  have HKP := Lib.hid (pK_pos hc)
  rw [hc] at K24
  rw [hg] at K25
  have HGT := Lib.hid hgt
  clear hg hgt
  have K27 := Lib.hid (fun w => numbers_any (pK s : Int) w)
  rw [← hn] at K27
  clear hn
  obtain ⟨pn, hpn⟩ : ∃ z, z = prN l := ⟨_, rfl⟩
  obtain ⟨pb, hpb⟩ : ∃ z, z = prB l := ⟨_, rfl⟩
  obtain ⟨fb, hfb⟩ : ∃ z, z = putS (rowT (pK s) (prB l) (prN l)) := ⟨_, rfl⟩
  have HFD : Hid (fdK (pK s) (prB l) (prN l) = pK s ∧ fdE (pK s) (pE s) (prB l) (prN l) = pE s ∧ fdB (pK s) (prB l) (prN l) = fb) := Lib.hid (by unfold fdK fdE fdB; rw [if_pos hf, if_pos hf, if_pos hf]; exact ⟨rfl, rfl, hfb.symm⟩)
  have t4 : (fb.toList == (pB s).toList) = false := by
    rw [beq_eq_false_iff_ne]
    intro e
    rw [Lib.toList_data, Lib.toList_data] at e
    exact hp (by rw [← hfb]; exact ByteArray.ext (Array.ext' e))
  clear hf hp hfb
  rw [← hpn, ← hpb] at HFD
  have HPN := Lib.hid (And.intro hpn hpb)
  rw [← hpn] at K27
  obtain ⟨q, hq⟩ : ∃ z, z = pn.length := ⟨_, rfl⟩
  rw [← hq] at K27
  have HQ : Hid (pn.length = q) := Lib.hid hq.symm
  have hq0 := hq.trans (congrArg List.length hpn)
  clear hpn hpb hq hq0
  generalize pK s = k at *
  generalize pE s = e at *
  generalize pB s = b at *

  clear hs hc
  unfold paV at K24
  have HBL := Lib.hid (alloc_below w (.cells #[.int .i64 0, .int .u64 0, .string ⟨#[]⟩, .slice none 0 0] 69))
  have HBX := Lib.hid (show Bx w.heap.size (.int .i64 0) (.int .u64 0) (.string ⟨#[]⟩) (.slice none 0 0) (w.alloc (.cells #[.int .i64 0, .int .u64 0, .string ⟨#[]⟩, .slice none 0 0] 69)) from ⟨four_new _ _ _ _ _ _, alloc_lt _ _⟩)
  have HH := Lib.hid (heap_alloc_new w (.cells #[.int .i64 0, .int .u64 0, .string ⟨#[]⟩, .slice none 0 0] 69))
  go_enter Try.func9, Try.ntmps9
  go_wp2_with fail
  refine wp_scope_jumps 0 (RdJ w) (fun _ _ => 0) rfl ?_ ?_
  · go_upto_region 7 with (first
      | (go_at_call 24; ((with_reducible refine (K24.out _).mono ?_); rintro x w1 ⟨rfl, hb1⟩; have HB1 := Lib.hid (HBL.out.trans (hb1.mono HBL.out.size)); have HX1 := Lib.hid (HBX.out.later hb1); have HH1 := Lib.hid ((hb1.block _ (lt_of_heap HH.out)).trans HH.out); obtain ⟨p0, p1, p2⟩ := Fr.new w1 (k : Int) e b; clear hb1))
      | (go_at_call 25; ((with_reducible refine (K25.out _).mono ?_); rintro x w2 ⟨d0, d1, d2, d3, rfl, hv, hb2, hz⟩; obtain ⟨k', n', v', oL, len, cap, rfl, rfl, rfl, rfl⟩ := hv.cells; have hba : Below w1.heap.size w1 w2 := (alloc_below w1 _).trans (hb2.mono (alloc_below w1 _).size); obtain ⟨p0, p1, p2⟩ := (Fr.new w1 (k : Int) e b).below hb2 (alloc_lt _ _); have HB2 := Lib.hid (HB1.out.trans (hba.mono HB1.out.size)); obtain ⟨c0, c1, c2, c3⟩ := (HX1.out.later hba).1; have b1 := (hba.block _ (lt_of_heap HH1.out)).trans HH1.out; have y0 := frozen_of_row w2 w.heap.size 0 _ _ b1; have y1 := frozen_of_row w2 w.heap.size 1 _ _ b1; have y2 := frozen_of_row w2 w.heap.size 2 _ _ b1; have y3 := frozen_of_row w2 w.heap.size 3 _ _ b1; have HV := Lib.hid hv; have HLT := Lib.hid (show w.heap.size < w1.heap.size ∧ w1.heap.size < w2.heap.size from ⟨HX1.out.2, Nat.lt_of_lt_of_le (alloc_lt w1 _) hb2.size⟩); clear hb2 hba b1 hv hz)))
    have hle : w.heap.size ≤ w.heap.size := Nat.le_refl _
    have HB5 := Lib.hid ((((HB2.out.setCell (p := ⟨w.heap.size, 0, none⟩) hle (.int .i64 k')).setCell (p := ⟨w.heap.size, 1, none⟩) hle (.int .u64 (n' : Int))).setCell (p := ⟨w.heap.size, 2, none⟩) hle (.string v')).setCell (p := ⟨w.heap.size, 3, none⟩) hle (.slice oL len cap))
    have HV5 := Lib.hid (VInP.plain _ (VInP.keep (w' := (((w2.setCell ⟨w.heap.size, 0, none⟩ (.int .i64 k')).setCell ⟨w.heap.size, 1, none⟩ (.int .u64 (n' : Int))).setCell ⟨w.heap.size, 2, none⟩ (.string v')).setCell ⟨w.heap.size, 3, none⟩ (.slice oL len cap)) (Q := fun _ => True) (by simp) (fun b' _ hP => ⟨setfour b' (by have := HLT.out.1; have h9 := hP; simp at h9; omega), trivial⟩) _ HV.out))
    have x0 : ((((w2.setCell ⟨w.heap.size, 0, none⟩ (.int .i64 k')).setCell ⟨w.heap.size, 1, none⟩ (.int .u64 (n' : Int))).setCell ⟨w.heap.size, 2, none⟩ (.string v')).setCell ⟨w.heap.size, 3, none⟩ (.slice oL len cap)).cell? ⟨w.heap.size, 0, none⟩ = some (.int .i64 k') := by simp [go_sem, *]
    have x1 : ((((w2.setCell ⟨w.heap.size, 0, none⟩ (.int .i64 k')).setCell ⟨w.heap.size, 1, none⟩ (.int .u64 (n' : Int))).setCell ⟨w.heap.size, 2, none⟩ (.string v')).setCell ⟨w.heap.size, 3, none⟩ (.slice oL len cap)).cell? ⟨w.heap.size, 1, none⟩ = some (.int .u64 (n' : Int)) := by simp [go_sem, *]
    have x2 : ((((w2.setCell ⟨w.heap.size, 0, none⟩ (.int .i64 k')).setCell ⟨w.heap.size, 1, none⟩ (.int .u64 (n' : Int))).setCell ⟨w.heap.size, 2, none⟩ (.string v')).setCell ⟨w.heap.size, 3, none⟩ (.slice oL len cap)).cell? ⟨w.heap.size, 2, none⟩ = some (.string v') := by simp [go_sem, *]
    have x3 : ((((w2.setCell ⟨w.heap.size, 0, none⟩ (.int .i64 k')).setCell ⟨w.heap.size, 1, none⟩ (.int .u64 (n' : Int))).setCell ⟨w.heap.size, 2, none⟩ (.string v')).setCell ⟨w.heap.size, 3, none⟩ (.slice oL len cap)).cell? ⟨w.heap.size, 3, none⟩ = some (.slice oL len cap) := by simp [go_sem, *]
    have hq : ((((w2.setCell ⟨w.heap.size, 0, none⟩ (.int .i64 k')).setCell ⟨w.heap.size, 1, none⟩ (.int .u64 (n' : Int))).setCell ⟨w.heap.size, 2, none⟩ (.string v')).setCell ⟨w.heap.size, 3, none⟩ (.slice oL len cap)).heap[w1.heap.size]? = w2.heap[w1.heap.size]? := setfour _ (by have := HLT.out; omega)
    have HF5 := Lib.hid (show Fr ((((w2.setCell ⟨w.heap.size, 0, none⟩ (.int .i64 k')).setCell ⟨w.heap.size, 1, none⟩ (.int .u64 (n' : Int))).setCell ⟨w.heap.size, 2, none⟩ (.string v')).setCell ⟨w.heap.size, 3, none⟩ (.slice oL len cap)) w1.heap.size k e b from ⟨(World.cell?_of_block (a := ⟨w1.heap.size, 0, none⟩) hq).trans p0, (World.cell?_of_block (a := ⟨w1.heap.size, 1, none⟩) hq).trans p1, (World.cell?_of_block (a := ⟨w1.heap.size, 2, none⟩) hq).trans p2⟩)
    have HS5 : Hid (w1.heap.size < ((((w2.setCell ⟨w.heap.size, 0, none⟩ (.int .i64 k')).setCell ⟨w.heap.size, 1, none⟩ (.int .u64 (n' : Int))).setCell ⟨w.heap.size, 2, none⟩ (.string v')).setCell ⟨w.heap.size, 3, none⟩ (.slice oL len cap)).heap.size) := Lib.hid (by simpa using HLT.out.2)
    generalize ((((w2.setCell ⟨w.heap.size, 0, none⟩ (.int .i64 k')).setCell ⟨w.heap.size, 1, none⟩ (.int .u64 (n' : Int))).setCell ⟨w.heap.size, 2, none⟩ (.string v')).setCell ⟨w.heap.size, 3, none⟩ (.slice oL len cap)) = w5 at *
    clear c0 c1 c2 c3 y0 y1 y2 y3 p0 p1 p2 hq hle
    have hv5 := HV5.out
    rw [HGT.out] at hv5
    have HK26 := Lib.hid (parts_any _ _ _ _ _ _ _ _ _ hv5)
    have HLE := Lib.hid (prN_le hv5)
    clear hv5
    generalize w1.heap.size = g1 at *
    rw [← HPN.out.1, ← HPN.out.2] at HK26 HLE
    rw [HQ.out] at HK26
    go_upto_region 10 with (first
      | (go_at_call 26; ((with_reducible refine (HK26.out).mono ?_); rintro x w6 ⟨ρ, oN, capN, rfl, hpa⟩; have HPA := Lib.hid hpa; have HB6 := Lib.hid (HB5.out.trans (hpa.1.mono HB5.out.size)); have HF6 := Lib.hid (HF5.out.below hpa.1 HS5.out); obtain ⟨p0, p1, p2⟩ := HF6.out; clear hpa))
      | (go_at_call 27; ((with_reducible refine (K27.out _).mono ?_); rintro x w7 ⟨rfl, rfl⟩)))
    have HNI := HPA.out.2.1.ins HLE.out.1
    obtain ⟨BN, hBN, hNI⟩ := HNI
    have K20 : Hid (∀ wz, Hid (Below w6.heap.size w6 wz) → Calls Try.prog 20 #[.int .i64 (k : Int), .int .u64 (e : Int), .string pb, .slice oN q capN] wz fun r w' => r = .returned (.agg #[.int .i64 (k : Int), .int .u64 (e : Int), .string fb]) ∧ Below wz.heap.size wz w') := Lib.hid (fun wz hz => by
      have h := framed_any (k : Int) e pb pn oN capN BN 0 HLE.out.2.1 wz (fun hp => ⟨(hBN hp).1, Nat.lt_of_lt_of_le (hBN hp).2 hz.out.size⟩) (fun i hi => ⟨(hz.out.cell (p := ⟨BN, 0 + i, none⟩) (hBN (by omega)).2).trans (hNI i hi).1, (hNI i hi).2⟩)
      rw [HQ.out] at h
      rw [HFD.out.1, HFD.out.2.1, HFD.out.2.2] at h
      exact h)
    have mk : Hid (∀ wz, Below w6.heap.size w6 wz → (wz.cell? ⟨g1, 0, none⟩ = some (.int .i64 (k : Int)) ∧ wz.cell? ⟨g1, 1, none⟩ = some (.int .u64 (e : Int)) ∧ wz.cell? ⟨g1, 2, none⟩ = some (.string b) ∧ Hid (Below w6.heap.size w6 wz))) := Lib.hid (fun wz h => ⟨(h.cell (p := ⟨g1, 0, none⟩) (World.block_lt_of_cell? _ _ p0)).trans p0, (h.cell (p := ⟨g1, 1, none⟩) (World.block_lt_of_cell? _ _ p1)).trans p1, (h.cell (p := ⟨g1, 2, none⟩) (World.block_lt_of_cell? _ _ p2)).trans p2, Lib.hid h⟩)
    have hst := Lib.hid (show Below w6.heap.size w6 w6.drew from (Below.refl _ _).drew)
    clear hBN hNI p0 p1 p2
    go_upto_region 10 with fail
    go_region_held3 (fun wz => wz.cell? ⟨g1, 0, none⟩ = some (.int .i64 (k : Int)) ∧ wz.cell? ⟨g1, 1, none⟩ = some (.int .u64 (e : Int)) ∧ wz.cell? ⟨g1, 2, none⟩ = some (.string b) ∧ Hid (Below w6.heap.size w6 wz))
      (first | exact mk.out _ hst.out | (refine mk.out _ (below_tr ?_ (by assumption)); go_split_ands; assumption) | (refine mk.out _ ?_; go_split_ands; (refine Hid.out ?_; assumption)))
      (first | (go_at_call 20; ((with_reducible refine (K20.out _ ?_).mono ?_); (go_split_ands; assumption); rintro x w8 ⟨rfl, hb8⟩)))
    all_goals
      have HB8 : Hid (Below w6.heap.size w6 w8) := by go_split_ands; assumption
      try simp only [Exit.then]
      try apply_assumption
      go_wp2
      go_step3
      exact ⟨rfl, RdJ.mk rfl (HB6.out.trans (HB8.out.mono HB6.out.size))⟩
  · rintro a wz ⟨u, rfl, hb⟩
    go_wp2
    simp only [Exit.jump]
    exact bodyPost_ret (v := rdBad) (by simp [results, Try.results9, go_sem, rdBad]) rfl ⟨rfl, hb⟩

set_option maxRecDepth 100000 in
set_option maxHeartbeats 8000000 in
theorem read_e (s : ByteArray) (hs : s.size ≤ 1000000000) (hc : codeP s = 0) (hg : getC (pB s) = 0) {gk : Int} {gn : Nat} {gs : ByteArray} {l : List Tr} (hgt : getT (pB s) = .mk gk gn gs l) (hn : ((prN l).length : Int) = numK (pK s)) (hf : fdOk (pK s) (prB l) (prN l)) (hp : putS (rowT (pK s) (prB l) (prN l)) = pB s) (w : World) : Calls Try.prog 9 #[.string s] w fun r w' => ∃ ρ o cap, r = .returned (.tuple #[.int .i64 (pK s : Int), .int .u64 (pE s : Int), .slice o (prN l).length cap, .string (prB l), .int .i64 0]) ∧ PaW w ρ o cap (prN l) w' := by
  have K24 := Lib.hid (fun w => parse_any s hs w)
  have K25 := Lib.hid (fun w => cget_any (pB s) (Nat.le_trans (pB_le s) hs) w)
  unfold cgV at K25
  have HKP := Lib.hid (pK_pos hc)
  rw [hc] at K24
  rw [hg] at K25
  have HGT := Lib.hid hgt
  clear hg hgt
  have K27 := Lib.hid (fun w => numbers_any (pK s : Int) w)
  rw [← hn] at K27
  clear hn
  obtain ⟨pn, hpn⟩ : ∃ z, z = prN l := ⟨_, rfl⟩
  obtain ⟨pb, hpb⟩ : ∃ z, z = prB l := ⟨_, rfl⟩
  have HFD : Hid (fdK (pK s) (prB l) (prN l) = pK s ∧ fdE (pK s) (pE s) (prB l) (prN l) = pE s ∧ fdB (pK s) (prB l) (prN l) = pB s) := Lib.hid (by unfold fdK fdE fdB; rw [if_pos hf, if_pos hf, if_pos hf]; exact ⟨rfl, rfl, hp⟩)
  clear hf hp
  rw [← hpn, ← hpb] at HFD
  have HPN := Lib.hid (And.intro hpn hpb)
  rw [← hpn] at K27
  obtain ⟨q, hq⟩ : ∃ z, z = pn.length := ⟨_, rfl⟩
  rw [← hq] at K27
  have HQ : Hid (pn.length = q) := Lib.hid hq.symm
  have hq0 := hq.trans (congrArg List.length hpn)
  rw [← hpn, ← hpb, ← hq]
  clear hpn hpb hq hq0
  generalize pK s = k at *
  generalize pE s = e at *
  generalize pB s = b at *

  clear hs hc
  unfold paV at K24
  have HBL := Lib.hid (alloc_below w (.cells #[.int .i64 0, .int .u64 0, .string ⟨#[]⟩, .slice none 0 0] 69))
  have HBX := Lib.hid (show Bx w.heap.size (.int .i64 0) (.int .u64 0) (.string ⟨#[]⟩) (.slice none 0 0) (w.alloc (.cells #[.int .i64 0, .int .u64 0, .string ⟨#[]⟩, .slice none 0 0] 69)) from ⟨four_new _ _ _ _ _ _, alloc_lt _ _⟩)
  have HH := Lib.hid (heap_alloc_new w (.cells #[.int .i64 0, .int .u64 0, .string ⟨#[]⟩, .slice none 0 0] 69))
  go_enter Try.func9, Try.ntmps9
  go_wp2_with fail
  refine wp_scope_jumps 0 (fun _ _ => False) (fun _ _ => 0) rfl ?_ ?_
  · go_upto_region 7 with (first
      | (go_at_call 24; ((with_reducible refine (K24.out _).mono ?_); rintro x w1 ⟨rfl, hb1⟩; have HB1 := Lib.hid (HBL.out.trans (hb1.mono HBL.out.size)); have HX1 := Lib.hid (HBX.out.later hb1); have HH1 := Lib.hid ((hb1.block _ (lt_of_heap HH.out)).trans HH.out); obtain ⟨p0, p1, p2⟩ := Fr.new w1 (k : Int) e b; clear hb1))
      | (go_at_call 25; ((with_reducible refine (K25.out _).mono ?_); rintro x w2 ⟨d0, d1, d2, d3, rfl, hv, hb2, hz⟩; obtain ⟨k', n', v', oL, len, cap, rfl, rfl, rfl, rfl⟩ := hv.cells; have hba : Below w1.heap.size w1 w2 := (alloc_below w1 _).trans (hb2.mono (alloc_below w1 _).size); obtain ⟨p0, p1, p2⟩ := (Fr.new w1 (k : Int) e b).below hb2 (alloc_lt _ _); have HB2 := Lib.hid (HB1.out.trans (hba.mono HB1.out.size)); obtain ⟨c0, c1, c2, c3⟩ := (HX1.out.later hba).1; have b1 := (hba.block _ (lt_of_heap HH1.out)).trans HH1.out; have y0 := frozen_of_row w2 w.heap.size 0 _ _ b1; have y1 := frozen_of_row w2 w.heap.size 1 _ _ b1; have y2 := frozen_of_row w2 w.heap.size 2 _ _ b1; have y3 := frozen_of_row w2 w.heap.size 3 _ _ b1; have HV := Lib.hid hv; have HLT := Lib.hid (show w.heap.size < w1.heap.size ∧ w1.heap.size < w2.heap.size from ⟨HX1.out.2, Nat.lt_of_lt_of_le (alloc_lt w1 _) hb2.size⟩); clear hb2 hba b1 hv hz)))
    have hle : w.heap.size ≤ w.heap.size := Nat.le_refl _
    have HB5 := Lib.hid ((((HB2.out.setCell (p := ⟨w.heap.size, 0, none⟩) hle (.int .i64 k')).setCell (p := ⟨w.heap.size, 1, none⟩) hle (.int .u64 (n' : Int))).setCell (p := ⟨w.heap.size, 2, none⟩) hle (.string v')).setCell (p := ⟨w.heap.size, 3, none⟩) hle (.slice oL len cap))
    have HV5 := Lib.hid (VInP.plain _ (VInP.keep (w' := (((w2.setCell ⟨w.heap.size, 0, none⟩ (.int .i64 k')).setCell ⟨w.heap.size, 1, none⟩ (.int .u64 (n' : Int))).setCell ⟨w.heap.size, 2, none⟩ (.string v')).setCell ⟨w.heap.size, 3, none⟩ (.slice oL len cap)) (Q := fun _ => True) (by simp) (fun b' _ hP => ⟨setfour b' (by have := HLT.out.1; have h9 := hP; simp at h9; omega), trivial⟩) _ HV.out))
    have x0 : ((((w2.setCell ⟨w.heap.size, 0, none⟩ (.int .i64 k')).setCell ⟨w.heap.size, 1, none⟩ (.int .u64 (n' : Int))).setCell ⟨w.heap.size, 2, none⟩ (.string v')).setCell ⟨w.heap.size, 3, none⟩ (.slice oL len cap)).cell? ⟨w.heap.size, 0, none⟩ = some (.int .i64 k') := by simp [go_sem, *]
    have x1 : ((((w2.setCell ⟨w.heap.size, 0, none⟩ (.int .i64 k')).setCell ⟨w.heap.size, 1, none⟩ (.int .u64 (n' : Int))).setCell ⟨w.heap.size, 2, none⟩ (.string v')).setCell ⟨w.heap.size, 3, none⟩ (.slice oL len cap)).cell? ⟨w.heap.size, 1, none⟩ = some (.int .u64 (n' : Int)) := by simp [go_sem, *]
    have x2 : ((((w2.setCell ⟨w.heap.size, 0, none⟩ (.int .i64 k')).setCell ⟨w.heap.size, 1, none⟩ (.int .u64 (n' : Int))).setCell ⟨w.heap.size, 2, none⟩ (.string v')).setCell ⟨w.heap.size, 3, none⟩ (.slice oL len cap)).cell? ⟨w.heap.size, 2, none⟩ = some (.string v') := by simp [go_sem, *]
    have x3 : ((((w2.setCell ⟨w.heap.size, 0, none⟩ (.int .i64 k')).setCell ⟨w.heap.size, 1, none⟩ (.int .u64 (n' : Int))).setCell ⟨w.heap.size, 2, none⟩ (.string v')).setCell ⟨w.heap.size, 3, none⟩ (.slice oL len cap)).cell? ⟨w.heap.size, 3, none⟩ = some (.slice oL len cap) := by simp [go_sem, *]
    have hq : ((((w2.setCell ⟨w.heap.size, 0, none⟩ (.int .i64 k')).setCell ⟨w.heap.size, 1, none⟩ (.int .u64 (n' : Int))).setCell ⟨w.heap.size, 2, none⟩ (.string v')).setCell ⟨w.heap.size, 3, none⟩ (.slice oL len cap)).heap[w1.heap.size]? = w2.heap[w1.heap.size]? := setfour _ (by have := HLT.out; omega)
    have HF5 := Lib.hid (show Fr ((((w2.setCell ⟨w.heap.size, 0, none⟩ (.int .i64 k')).setCell ⟨w.heap.size, 1, none⟩ (.int .u64 (n' : Int))).setCell ⟨w.heap.size, 2, none⟩ (.string v')).setCell ⟨w.heap.size, 3, none⟩ (.slice oL len cap)) w1.heap.size k e b from ⟨(World.cell?_of_block (a := ⟨w1.heap.size, 0, none⟩) hq).trans p0, (World.cell?_of_block (a := ⟨w1.heap.size, 1, none⟩) hq).trans p1, (World.cell?_of_block (a := ⟨w1.heap.size, 2, none⟩) hq).trans p2⟩)
    have HS5 : Hid (w1.heap.size < ((((w2.setCell ⟨w.heap.size, 0, none⟩ (.int .i64 k')).setCell ⟨w.heap.size, 1, none⟩ (.int .u64 (n' : Int))).setCell ⟨w.heap.size, 2, none⟩ (.string v')).setCell ⟨w.heap.size, 3, none⟩ (.slice oL len cap)).heap.size) := Lib.hid (by simpa using HLT.out.2)
    generalize ((((w2.setCell ⟨w.heap.size, 0, none⟩ (.int .i64 k')).setCell ⟨w.heap.size, 1, none⟩ (.int .u64 (n' : Int))).setCell ⟨w.heap.size, 2, none⟩ (.string v')).setCell ⟨w.heap.size, 3, none⟩ (.slice oL len cap)) = w5 at *
    clear c0 c1 c2 c3 y0 y1 y2 y3 p0 p1 p2 hq hle
    have hv5 := HV5.out
    rw [HGT.out] at hv5
    have HK26 := Lib.hid (parts_any _ _ _ _ _ _ _ _ _ hv5)
    have HLE := Lib.hid (prN_le hv5)
    clear hv5
    generalize w1.heap.size = g1 at *
    rw [← HPN.out.1, ← HPN.out.2] at HK26 HLE
    rw [HQ.out] at HK26
    go_upto_region 10 with (first
      | (go_at_call 26; ((with_reducible refine (HK26.out).mono ?_); rintro x w6 ⟨ρ, oN, capN, rfl, hpa⟩; have HPA := Lib.hid hpa; have HB6 := Lib.hid (HB5.out.trans (hpa.1.mono HB5.out.size)); have HF6 := Lib.hid (HF5.out.below hpa.1 HS5.out); obtain ⟨p0, p1, p2⟩ := HF6.out; clear hpa))
      | (go_at_call 27; ((with_reducible refine (K27.out _).mono ?_); rintro x w7 ⟨rfl, rfl⟩)))
    have HNI := HPA.out.2.1.ins HLE.out.1
    obtain ⟨BN, hBN, hNI⟩ := HNI
    have K20 : Hid (∀ wz, Hid (Below w6.heap.size w6 wz) → Calls Try.prog 20 #[.int .i64 (k : Int), .int .u64 (e : Int), .string pb, .slice oN q capN] wz fun r w' => r = .returned (.agg #[.int .i64 (k : Int), .int .u64 (e : Int), .string b]) ∧ Below wz.heap.size wz w') := Lib.hid (fun wz hz => by
      have h := framed_any (k : Int) e pb pn oN capN BN 0 HLE.out.2.1 wz (fun hp => ⟨(hBN hp).1, Nat.lt_of_lt_of_le (hBN hp).2 hz.out.size⟩) (fun i hi => ⟨(hz.out.cell (p := ⟨BN, 0 + i, none⟩) (hBN (by omega)).2).trans (hNI i hi).1, (hNI i hi).2⟩)
      rw [HQ.out] at h
      rw [HFD.out.1, HFD.out.2.1, HFD.out.2.2] at h
      exact h)
    have mk : Hid (∀ wz, Below w6.heap.size w6 wz → (wz.cell? ⟨g1, 0, none⟩ = some (.int .i64 (k : Int)) ∧ wz.cell? ⟨g1, 1, none⟩ = some (.int .u64 (e : Int)) ∧ wz.cell? ⟨g1, 2, none⟩ = some (.string b) ∧ Hid (Below w6.heap.size w6 wz))) := Lib.hid (fun wz h => ⟨(h.cell (p := ⟨g1, 0, none⟩) (World.block_lt_of_cell? _ _ p0)).trans p0, (h.cell (p := ⟨g1, 1, none⟩) (World.block_lt_of_cell? _ _ p1)).trans p1, (h.cell (p := ⟨g1, 2, none⟩) (World.block_lt_of_cell? _ _ p2)).trans p2, Lib.hid h⟩)
    have hst := Lib.hid (show Below w6.heap.size w6 w6.drew from (Below.refl _ _).drew)
    clear hBN hNI p0 p1 p2
    go_upto_region 10 with fail
    go_region_held3 (fun wz => wz.cell? ⟨g1, 0, none⟩ = some (.int .i64 (k : Int)) ∧ wz.cell? ⟨g1, 1, none⟩ = some (.int .u64 (e : Int)) ∧ wz.cell? ⟨g1, 2, none⟩ = some (.string b) ∧ Hid (Below w6.heap.size w6 wz))
      (first | exact mk.out _ hst.out | (refine mk.out _ (below_tr ?_ (by assumption)); go_split_ands; assumption) | (refine mk.out _ ?_; go_split_ands; (refine Hid.out ?_; assumption)))
      (first | (go_at_call 20; ((with_reducible refine (K20.out _ ?_).mono ?_); (go_split_ands; assumption); rintro x w8 ⟨rfl, hb8⟩)))
    all_goals
      have HB8 : Hid (Below w6.heap.size w6 w8) := by go_split_ands; assumption
      have HP8 := Lib.hid ((HPA.out.later HB8.out).base HB5.out)
      obtain ⟨p0, p1, p2, _⟩ := mk.out _ HB8.out
      try simp only [Exit.then]
      try apply_assumption
      go_wp2_with fail
      go_region
      all_goals
        go_wp2
        simp only [Exit.jump]
        refine bodyPost_ret (v := .tuple #[.int .i64 (k : Int), .int .u64 (e : Int), .slice oN q capN, .string pb, .int .i64 0]) (by simp [results, Try.results9, go_sem]) rfl ⟨ρ, oN, capN, rfl, ?_⟩
        exact HP8.out.later (by first | exact Below.refl _ _ | exact (Below.refl _ _).drew | exact (Below.refl _ _).drew.drew)
  · rintro a wz ⟨⟩

theorem kids_of {s : ByteArray} {gk : Int} {gn : Nat} {gs : ByteArray} {l : List Tr} (h : getT (pB s) = .mk gk gn gs l) : kids s = l := by unfold kids; rw [h]
/-- What Read answers of any text. -/
theorem read_bad (s : ByteArray) (hs : s.size ≤ 1000000000) (h : ¬ okM s) (w : World) : Calls Try.prog 9 #[.string s] w fun r w' => r = .returned rdBad ∧ Below w.heap.size w w' := by
  by_cases hc : codeP s = 0
  · by_cases hg : getC (pB s) = 0
    · obtain ⟨t, ht⟩ : ∃ t, getT (pB s) = t := ⟨_, rfl⟩
      obtain ⟨gk, gn, gs, l⟩ := t
      have hk := kids_of ht
      by_cases hn : ((prN l).length : Int) = numK (pK s)
      · by_cases hf : fdOk (pK s) (prB l) (prN l)
        · by_cases hp : putS (rowT (pK s) (prB l) (prN l)) = pB s
          · refine absurd ⟨hc, hg, ?_, ?_, ?_, ?_⟩ h
            · unfold msN; rw [hk]; exact hn
            · unfold msN msB fdK; rw [hk, if_pos hf]
            · unfold msN msB fdE; rw [hk, if_pos hf]
            · unfold msN msB fdB; rw [hk, if_pos hf]; exact hp
          · exact read_d3 s hs hc hg ht hn hf hp w
        · exact read_d1 s hs hc hg ht hn hf w
      · exact read_n s hs hc hg ht hn w
    · exact read_g s hs hc hg w
  · exact read_p s hs hc w
theorem read_ok (s : ByteArray) (hs : s.size ≤ 1000000000) (h : okM s) (w : World) : Calls Try.prog 9 #[.string s] w fun r w' => ∃ ρ o cap, r = .returned (.tuple #[.int .i64 (pK s : Int), .int .u64 (pE s : Int), .slice o (msN s).length cap, .string (msB s), .int .i64 0]) ∧ PaW w ρ o cap (msN s) w' := by
  obtain ⟨hc, hg, hn, h1, h2, h3⟩ := h
  obtain ⟨t, ht⟩ : ∃ t, getT (pB s) = t := ⟨_, rfl⟩
  obtain ⟨gk, gn, gs, l⟩ := t
  have hk := kids_of ht
  have eN : msN s = prN l := by unfold msN; rw [hk]
  have eB : msB s = prB l := by unfold msB; rw [hk]
  rw [eN] at hn h1 h3 ⊢
  rw [eB] at h1 h3 ⊢
  clear h2
  have hf : fdOk (pK s) (prB l) (prN l) := by
    refine Classical.byContradiction fun hf => ?_
    unfold fdK at h1
    rw [if_neg hf] at h1
    have := (pK_pos hc).1
    omega
  have hp : putS (rowT (pK s) (prB l) (prN l)) = pB s := by unfold fdB at h3; rw [if_pos hf] at h3; exact h3
  exact read_e s hs hc hg ht hn hf hp w

end Go.Proofs.Ytdojepkmjifoeaa
