/- config: lists of values under way: an append as an operation; the document's text and number.; codec.Same.; The document's Same.; config: the document's Same. -/
import Derived.Test.YtjfjliobencppaaGreatDoorJ23
import Derived.Test.YtjfjliobencppaaGreatDoorJ27
import Derived.Test.YtjfjliobencppaaGreatDoorJ06
import Derived.Test.YtjfjliobencppaaGreatDoorJ05
import Derived.StillTailTactics
set_option linter.unusedVariables false
set_option linter.unusedSimpArgs false
namespace Go.Proofs.YtjfjliobencppaaGreatDoor.Cf
open Go.RowKit

theorem rtext_any (s : ByteArray) (w : World) : Calls Tryz.prog 68 #[.string s] w fun e w' => e = .returned (.agg #[.int .i64 2, .int .u64 0, .string s, .slice none 0 0]) ∧ Below w.heap.size w w' := by
  have HB := Lib.hid (alloc_below w (.cells #[.int .i64 2, .int .u64 0, .string s, .slice none 0 0] 81))
  go_enter Tryz.func68, Tryz.ntmps68
  go_wp2
  refine bodyPost_ret (v := .agg #[.int .i64 2, .int .u64 0, .string s, .slice none 0 0]) (by simp [results, Tryz.results68, go_sem, *]) rfl ⟨rfl, ?_⟩
  exact HB.out
theorem rnum_any (n : Int) (w : World) : Calls Tryz.prog 69 #[.int .u64 n] w fun e w' => e = .returned (.agg #[.int .i64 1, .int .u64 n, .string ⟨#[]⟩, .slice none 0 0]) ∧ Below w.heap.size w w' := by
  have HB := Lib.hid (alloc_below w (.cells #[.int .i64 1, .int .u64 n, .string ⟨#[]⟩, .slice none 0 0] 81))
  go_enter Tryz.func69, Tryz.ntmps69
  go_wp2
  refine bodyPost_ret (v := .agg #[.int .i64 1, .int .u64 n, .string ⟨#[]⟩, .slice none 0 0]) (by simp [results, Tryz.results69, go_sem, *]) rfl ⟨rfl, ?_⟩
  exact HB.out

theorem be_two (p : Nat) : Sp.W.be p 2 = be p 2 := by simp [Sp.W.be, be]
theorem rplace_any (p : Pl) (h : p.ok) (w : World) : Calls Tryz.prog 70 #[.agg #[.int .u8 (p.a : Int), .int .u8 (p.b : Int), .int .u8 (p.c : Int), .int .u8 (p.d : Int), .int .u16 (p.port : Int)]] w fun e w' => e = .returned (.string (str p.bytes)) ∧ Below w.heap.size w w' := by
  obtain ⟨h1, h2, h3, h4, h5⟩ := h
  have := Sp.rbytes_any p.a p.b p.c p.d p.port (by omega) (by omega) (by omega) (by omega) (by omega) w
  unfold Sp.bytesN Sp.plc at this
  rw [be_two] at this
  exact this
theorem pbytes_size (p : Pl) : (str p.bytes).size ≤ 1000000000 := by
  have : (str p.bytes).size = 6 := by unfold Pl.bytes; simp [str_size, be]
  omega

theorem Kp.upto {q B : Nat} {w w' w'' : World} (h : Kp q w w') (hB : w.heap.size ≤ B) (hs : w'.heap.size ≤ w''.heap.size) (hb : Below B w' w'') : Kp q w w'' := ⟨Nat.le_trans h.size hs, fun b hb' hq => (hb.block b (Nat.lt_of_lt_of_le hb' hB)).trans (h.keep b hb' hq)⟩
theorem Bk.upto {w w' : World} {g B : Nat} {cs : Array Value} {T : TypeId} (h : Bk w g cs T) (hB : g < B) (hb : Below B w w') : Bk w' g cs T := (hb.block g hB).trans h
theorem VL.own {w : World} {B : Nat} {V : Value} {l : List Tr} (h : VL w B V l) (b : Nat) (hb : V.ownBlock = some b) : B ≤ b ∧ b < w.heap.size := by
  obtain ⟨PL, _, h2, _⟩ := h
  obtain ⟨cs, h3, h4⟩ := own_block h2 hb
  exact ⟨h4, lt_of_heap h3⟩
theorem VL.bk {w w' : World} {B g : Nat} {V : Value} {l : List Tr} {cs : Array Value} {T : TypeId} (h : VL w B V l) (hk : Bk w g cs T) (hT : T ≠ 81) (hg : w.grownBy w' V.ownBlock) : Bk w' g cs T := by
  obtain ⟨PL, _, h2, _⟩ := h
  exact Bk.grown hk h2 hg hT
theorem wp_push {W : World} {o : Oper} {a : Act} {K : Act → World → Prop} {Q : Exit → Act → World → Prop} (s x : Operand) (ho : o.op = .call { callee := .builtin .append, args := #[s, x], argTypes := #[79, 79] })
    (B : Nat) (V : Value) (l : List Tr) (t : Tr) (c0 c1 c2 c3 : Value) (gS : Nat) (hs : a.eval s = V) (hx : a.eval x = .slice (some ⟨gS, 0, none⟩) 1 1) (hL : VL W B V l) (hR : Bk W gS #[c0, c1, c2, c3] 81) (ht : VInP W (fun b => B ≤ b ∧ V.ownBlock ≠ some b) t c0 c1 c2 c3) (hB : B ≤ W.heap.size) (hn : l.length ≤ 1000000)
    (h : ∀ o' c' W', VL W' B (.slice o' (l.length + 1) c') (l ++ [t]) → W.grownBy W' V.ownBlock → Below B W W' → K (a.put o.dst (.slice o' (l.length + 1) c')) W') : Oper.wp Tryz.prog o a W K Q := by
  obtain ⟨PL, h1, h2, h3⟩ := hL
  have hlen : l.length = PL.length := by rw [← h1, List.length_map]
  obtain ⟨i0, z, hi, hz0, hz1, hz2, hz3⟩ := Ty.parts (P := Tryz.prog) (e := 81) (k := 4) (by kernel_rfl)
  have h1c : ∀ u ∈ [c0, c1, c2, c3], u.oneCell' = true := by
    obtain ⟨k, n, s, o, len, cap, rfl, rfl, rfl, rfl⟩ := ht.cells
    intro u hu
    simp only [List.mem_cons, List.not_mem_nil, or_false] at hu
    rcases hu with rfl | rfl | rfl | rfl <;> rfl
  obtain ⟨V', W', hr, r1, r2, r3, r4⟩ := run_append_own_at (P := Tryz.prog) W B 79 o.type 81 i0 z 4 i0.bytes (by kernel_rfl) hi hz0 hz1 rfl hz2 (by decide) V PL.length _ h2 ⟨gS, 0, none⟩ 1 1 [c0, c1, c2, c3] (by rfl) (fun j u hj => by rw [Addr.add_mid, Nat.zero_add, cell_of_row _ _ _ _ _ _ hR]; simpa using hj) h1c (by unfold maxLen; omega) (by have := Nat.mul_le_mul (show PL.length + 1 ≤ 1000001 by omega) hz3; omega) hB
  obtain ⟨o', c', rfl⟩ := own_form r1
  have hL2 := VL.push h1 h2 h3 ht rfl rfl r1 r2 r4
  unfold Oper.wp execOp
  simp only [ho, resolve, invoke, builtin, Sem.run_bind, Sem.run_pure, Result.andThen_ok, List.map_toArray, List.map_cons, List.map_nil, hs, hx, hr]
  have := h o' c' W' (by rw [hlen]; exact hL2) r2 ((Below.refl B W).grown r2 hB (fun g hg => (h2.lt g hg).1))
  rw [hlen] at this
  exact this
end Go.Proofs.YtjfjliobencppaaGreatDoor.Cf

namespace Go.Proofs.YtjfjliobencppaaGreatDoor
open Go.RowKit

theorem bytes_ne {a b : ByteArray} (h : a ≠ b) : (a.toList == b.toList) = false := by
  rw [beq_eq_false_iff_ne]
  intro e
  apply h
  apply ByteArray.ext
  apply Array.ext'
  rw [Lib.toList_data, Lib.toList_data] at e
  exact e

end Go.Proofs.YtjfjliobencppaaGreatDoor

namespace Go.Proofs.YtjfjliobencppaaGreatDoor
open Go.RowKit

set_option maxRecDepth 100000 in
theorem rsame_kind (k k' : Int) (n n' : Nat) (s s' : ByteArray) (o o' : Option Addr) (m m' cap cap' : Nat) (hk : k ≠ k') (w : World) :
    Calls Tryz.prog 35 #[.agg #[.int .i64 k, .int .u64 (n : Int), .string s, .slice o m cap], .agg #[.int .i64 k', .int .u64 (n' : Int), .string s', .slice o' m' cap']] w fun e w' => e = .returned (.bool false) ∧ Below w.heap.size w w' := by
  have q1 : (k != k') = true := by rw [bne_iff_ne]; exact hk
  clear hk
  have H0 := Lib.hid (VW.new w (.int .i64 k) (.int .u64 (n : Int)) (.string s) (.slice o m cap) 81)
  obtain ⟨w0, hw0⟩ : ∃ w0, w0 = w.alloc (.cells #[.int .i64 k, .int .u64 (n : Int), .string s, .slice o m cap] 81) := ⟨_, rfl⟩
  rw [← hw0] at H0
  have H1 := Lib.hid (VW.new w0 (.int .i64 k') (.int .u64 (n' : Int)) (.string s') (.slice o' m' cap') 81)
  have HS : Hid (w0.heap.size = w.heap.size + 1) := Lib.hid (by rw [hw0]; simp)
  have HW := Lib.hid hw0
  clear hw0
  go_enter Tryz.func35, Tryz.ntmps35
  go_upto_region 1 with fail
  rw [← HW.out]
  refine gen_wp (S := fun wz => Hid (VW w (.int .i64 k) (.int .u64 (n : Int)) (.string s) (.slice o m cap) wz ∧ VW w0 (.int .i64 k') (.int .u64 (n' : Int)) (.string s') (.slice o' m' cap') wz)) (Lib.hid ⟨H0.out.later H1.out.2.2, H1.out⟩) ?_
  intro W1 HX
  obtain ⟨c0, c1, c2, c3⟩ := HX.out.1.1
  obtain ⟨d0, d1, d2, d3⟩ := HX.out.2.1
  have HB := Lib.hid HX.out.1.2.2
  rw [HS.out] at d0 d1 d2 d3
  clear H0 H1 HW HX HS
  go_wp2
  go_ret
  exact ⟨rfl, HB.out⟩

set_option maxRecDepth 100000 in
theorem rsame_num (k : Int) (n n' : Nat) (s s' : ByteArray) (o o' : Option Addr) (m m' cap cap' : Nat) (hn : n ≠ n') (w : World) :
    Calls Tryz.prog 35 #[.agg #[.int .i64 k, .int .u64 (n : Int), .string s, .slice o m cap], .agg #[.int .i64 k, .int .u64 (n' : Int), .string s', .slice o' m' cap']] w fun e w' => e = .returned (.bool false) ∧ Below w.heap.size w w' := by
  have q1 : (k != k) = false := by simp
  have q2 : ((n : Int) != (n' : Int)) = true := by rw [bne_iff_ne]; omega
  clear hn
  have H0 := Lib.hid (VW.new w (.int .i64 k) (.int .u64 (n : Int)) (.string s) (.slice o m cap) 81)
  obtain ⟨w0, hw0⟩ : ∃ w0, w0 = w.alloc (.cells #[.int .i64 k, .int .u64 (n : Int), .string s, .slice o m cap] 81) := ⟨_, rfl⟩
  rw [← hw0] at H0
  have H1 := Lib.hid (VW.new w0 (.int .i64 k) (.int .u64 (n' : Int)) (.string s') (.slice o' m' cap') 81)
  have HS : Hid (w0.heap.size = w.heap.size + 1) := Lib.hid (by rw [hw0]; simp)
  have HW := Lib.hid hw0
  clear hw0
  go_enter Tryz.func35, Tryz.ntmps35
  go_upto_region 1 with fail
  rw [← HW.out]
  refine gen_wp (S := fun wz => Hid (VW w (.int .i64 k) (.int .u64 (n : Int)) (.string s) (.slice o m cap) wz ∧ VW w0 (.int .i64 k) (.int .u64 (n' : Int)) (.string s') (.slice o' m' cap') wz)) (Lib.hid ⟨H0.out.later H1.out.2.2, H1.out⟩) ?_
  intro W1 HX
  obtain ⟨c0, c1, c2, c3⟩ := HX.out.1.1
  obtain ⟨d0, d1, d2, d3⟩ := HX.out.2.1
  have HB := Lib.hid HX.out.1.2.2
  rw [HS.out] at d0 d1 d2 d3
  clear H0 H1 HW HX HS
  go_wp2
  go_ret
  exact ⟨rfl, HB.out⟩

set_option maxRecDepth 100000 in
theorem rsame_text (k : Int) (n : Nat) (s s' : ByteArray) (o o' : Option Addr) (m m' cap cap' : Nat) (hs : s ≠ s') (w : World) :
    Calls Tryz.prog 35 #[.agg #[.int .i64 k, .int .u64 (n : Int), .string s, .slice o m cap], .agg #[.int .i64 k, .int .u64 (n : Int), .string s', .slice o' m' cap']] w fun e w' => e = .returned (.bool false) ∧ Below w.heap.size w w' := by
  have q1 : (k != k) = false := by simp
  have q2 : ((n : Int) != (n : Int)) = false := by simp
  have q3 := bytes_ne hs
  have q3' : (s.toList != s'.toList) = true := by simp [bne, q3]
  clear hs
  have H0 := Lib.hid (VW.new w (.int .i64 k) (.int .u64 (n : Int)) (.string s) (.slice o m cap) 81)
  obtain ⟨w0, hw0⟩ : ∃ w0, w0 = w.alloc (.cells #[.int .i64 k, .int .u64 (n : Int), .string s, .slice o m cap] 81) := ⟨_, rfl⟩
  rw [← hw0] at H0
  have H1 := Lib.hid (VW.new w0 (.int .i64 k) (.int .u64 (n : Int)) (.string s') (.slice o' m' cap') 81)
  have HS : Hid (w0.heap.size = w.heap.size + 1) := Lib.hid (by rw [hw0]; simp)
  have HW := Lib.hid hw0
  clear hw0
  go_enter Tryz.func35, Tryz.ntmps35
  go_upto_region 1 with fail
  rw [← HW.out]
  refine gen_wp (S := fun wz => Hid (VW w (.int .i64 k) (.int .u64 (n : Int)) (.string s) (.slice o m cap) wz ∧ VW w0 (.int .i64 k) (.int .u64 (n : Int)) (.string s') (.slice o' m' cap') wz)) (Lib.hid ⟨H0.out.later H1.out.2.2, H1.out⟩) ?_
  intro W1 HX
  obtain ⟨c0, c1, c2, c3⟩ := HX.out.1.1
  obtain ⟨d0, d1, d2, d3⟩ := HX.out.2.1
  have HB := Lib.hid HX.out.1.2.2
  rw [HS.out] at d0 d1 d2 d3
  clear H0 H1 HW HX HS
  go_wp2
  go_ret
  exact ⟨rfl, HB.out⟩

set_option maxRecDepth 100000 in
theorem rsame_len (k : Int) (n : Nat) (s : ByteArray) (o o' : Option Addr) (m m' cap cap' : Nat) (hm : m ≠ m') (w : World) :
    Calls Tryz.prog 35 #[.agg #[.int .i64 k, .int .u64 (n : Int), .string s, .slice o m cap], .agg #[.int .i64 k, .int .u64 (n : Int), .string s, .slice o' m' cap']] w fun e w' => e = .returned (.bool false) ∧ Below w.heap.size w w' := by
  have q1 : (k != k) = false := by simp
  have q2 : ((n : Int) != (n : Int)) = false := by simp
  have q3 : (s.toList != s.toList) = false := by simp
  have q4 : ((m : Int) != (m' : Int)) = true := by rw [bne_iff_ne]; omega
  clear hm
  have H0 := Lib.hid (VW.new w (.int .i64 k) (.int .u64 (n : Int)) (.string s) (.slice o m cap) 81)
  obtain ⟨w0, hw0⟩ : ∃ w0, w0 = w.alloc (.cells #[.int .i64 k, .int .u64 (n : Int), .string s, .slice o m cap] 81) := ⟨_, rfl⟩
  rw [← hw0] at H0
  have H1 := Lib.hid (VW.new w0 (.int .i64 k) (.int .u64 (n : Int)) (.string s) (.slice o' m' cap') 81)
  have HS : Hid (w0.heap.size = w.heap.size + 1) := Lib.hid (by rw [hw0]; simp)
  have HW := Lib.hid hw0
  clear hw0
  go_enter Tryz.func35, Tryz.ntmps35
  go_upto_region 1 with fail
  rw [← HW.out]
  refine gen_wp (S := fun wz => Hid (VW w (.int .i64 k) (.int .u64 (n : Int)) (.string s) (.slice o m cap) wz ∧ VW w0 (.int .i64 k) (.int .u64 (n : Int)) (.string s) (.slice o' m' cap') wz)) (Lib.hid ⟨H0.out.later H1.out.2.2, H1.out⟩) ?_
  intro W1 HX
  obtain ⟨c0, c1, c2, c3⟩ := HX.out.1.1
  obtain ⟨d0, d1, d2, d3⟩ := HX.out.2.1
  have HB := Lib.hid HX.out.1.2.2
  rw [HS.out] at d0 d1 d2 d3
  clear H0 H1 HW HX HS
  go_wp2
  go_ret
  exact ⟨rfl, HB.out⟩

set_option maxRecDepth 100000 in
set_option maxHeartbeats 1000000 in
theorem rsame_list (k : Int) (n : Nat) (s : ByteArray) (o o' : Option Addr) (cap b off cap' b' off' : Nat) (l l' : List Tr) (hlen : l.length ≤ 1000000) (he : l.length = l'.length)
    (ih : ∀ x ∈ l, ∀ (y : Tr) (c0 c1 c2 c3 d0 d1 d2 d3 : Value) (w : World), VIn w x c0 c1 c2 c3 → VIn w y d0 d1 d2 d3 → Calls Tryz.prog 35 #[.agg #[c0, c1, c2, c3], .agg #[d0, d1, d2, d3]] w fun e w' => e = .returned (.bool (sameT x y)) ∧ Below w.heap.size w w')
    (w : World) (ho : 0 < l.length → o = some ⟨b, off, none⟩ ∧ b < w.heap.size) (hl : VInL w b off l) (ho' : 0 < l'.length → o' = some ⟨b', off', none⟩ ∧ b' < w.heap.size) (hl' : VInL w b' off' l') :
    Calls Tryz.prog 35 #[.agg #[.int .i64 k, .int .u64 (n : Int), .string s, .slice o l.length cap], .agg #[.int .i64 k, .int .u64 (n : Int), .string s, .slice o' l'.length cap']] w fun e w' => e = .returned (.bool (sameL l l')) ∧ Below w.heap.size w w' := by
  have HS := Lib.hid (sameL_iff l l' he)
  rw [← he]
  obtain ⟨m, hm⟩ : ∃ m, m = l.length := ⟨_, rfl⟩
  have hm' : m = l'.length := by rw [hm, he]
  rw [← hm] at hlen ⊢
  have HM := Lib.hid hm
  have HM' := Lib.hid hm'
  have HO := Lib.hid ho
  have HL := Lib.hid hl
  have HO' := Lib.hid ho'
  have HL' := Lib.hid hl'
  have IH := Lib.hid ih
  obtain ⟨R, hR⟩ : ∃ R, R = sameL l l' := ⟨_, rfl⟩
  rw [← hR]
  have HR := Lib.hid hR
  clear ho hl ho' hl' ih hm hm' he hR
  have q1 : (k != k) = false := by simp
  have q2 : ((n : Int) != (n : Int)) = false := by simp
  have q3 : (s.toList != s.toList) = false := by simp
  have q4 : ((m : Int) != (m : Int)) = false := by simp
  have H0 := Lib.hid (VW.new w (.int .i64 k) (.int .u64 (n : Int)) (.string s) (.slice o m cap) 81)
  obtain ⟨w0, hw0⟩ : ∃ w0, w0 = w.alloc (.cells #[.int .i64 k, .int .u64 (n : Int), .string s, .slice o m cap] 81) := ⟨_, rfl⟩
  rw [← hw0] at H0
  have H1 := Lib.hid (VW.new w0 (.int .i64 k) (.int .u64 (n : Int)) (.string s) (.slice o' m cap') 81)
  have HSZ : Hid (w0.heap.size = w.heap.size + 1) := Lib.hid (by rw [hw0]; simp)
  have HW := Lib.hid hw0
  clear hw0
  go_enter Tryz.func35, Tryz.ntmps35
  go_upto_region 1 with fail
  rw [← HW.out]
  refine gen_wp (S := fun wz => Hid (VW w (.int .i64 k) (.int .u64 (n : Int)) (.string s) (.slice o m cap) wz ∧ VW w0 (.int .i64 k) (.int .u64 (n : Int)) (.string s) (.slice o' m cap') wz)) (Lib.hid ⟨H0.out.later H1.out.2.2, H1.out⟩) ?_
  intro W1 HX
  obtain ⟨c0, c1, c2, c3⟩ := HX.out.1.1
  obtain ⟨d0, d1, d2, d3⟩ := HX.out.2.1
  have HB := Lib.hid HX.out.1.2.2
  rw [HSZ.out] at d0 d1 d2 d3
  have HX2 : Hid (VW w (.int .i64 k) (.int .u64 (n : Int)) (.string s) (.slice o m cap) W1 ∧ (W1.cell? ⟨w.heap.size + 1, 3, none⟩ = some (.slice o' m cap') ∧ w.heap.size + 1 < W1.heap.size)) := Lib.hid ⟨HX.out.1, d3, by rw [← HSZ.out]; exact HX.out.2.2.1⟩
  clear H0 H1 HW HX HSZ HB
  go_wp2_with fail
  clear c0 c1 c2 c3 d0 d1 d2 d3
  go_loopw [37] (fun iv wr => ∃ j : Nat, j ≤ m ∧ iv = .int .i64 (j : Int) ∧ Hid (∀ i (h : i < l.length) (h' : i < l'.length), i < j → sameT l[i] l'[i] = true) ∧ Hid (VW w (.int .i64 k) (.int .u64 (n : Int)) (.string s) (.slice o m cap) wr ∧ (wr.cell? ⟨w.heap.size + 1, 3, none⟩ = some (.slice o' m cap') ∧ w.heap.size + 1 < wr.heap.size))) (fun iv _ => m - (intOf iv).toNat)
  case atStart => exact ⟨0, Nat.zero_le _, rfl, Lib.hid (fun i _ _ h => absurd h (by omega)), HX2⟩
  case round =>
    clear HX2
    obtain ⟨j, hj, rfl, hS, hX⟩ := hrel
    by_cases hjm : j < m
    · have hjl : j < l.length := by rw [← HM.out]; exact hjm
      have hjl' : j < l'.length := by rw [← HM'.out]; exact hjm
      obtain ⟨hoo, hbb⟩ := HO.out (by omega)
      subst hoo
      obtain ⟨hoo', hbb'⟩ := HO'.out (by omega)
      subst hoo'
      obtain ⟨d0, d1, d2, d3, e0, e1, e2, e3, hv⟩ := HL.out.at j hjl
      obtain ⟨k1, n1, s1, o1, len1, cap1, rfl, rfl, rfl, rfl⟩ := hv.cells
      obtain ⟨d0', d1', d2', d3', e0', e1', e2', e3', hv'⟩ := HL'.out.at j hjl'
      obtain ⟨k2, n2, s2, o2, len2, cap2, rfl, rfl, rfl, rfl⟩ := hv'.cells
      have f0 := (hX.out.1.2.2.cell (p := ⟨b, _, none⟩) hbb).trans e0
      have f1 := (hX.out.1.2.2.cell (p := ⟨b, _, none⟩) hbb).trans e1
      have f2 := (hX.out.1.2.2.cell (p := ⟨b, _, none⟩) hbb).trans e2
      have f3 := (hX.out.1.2.2.cell (p := ⟨b, _, none⟩) hbb).trans e3
      have g0 := (hX.out.1.2.2.cell (p := ⟨b', _, none⟩) hbb').trans e0'
      have g1 := (hX.out.1.2.2.cell (p := ⟨b', _, none⟩) hbb').trans e1'
      have g2 := (hX.out.1.2.2.cell (p := ⟨b', _, none⟩) hbb').trans e2'
      have g3 := (hX.out.1.2.2.cell (p := ⟨b', _, none⟩) hbb').trans e3'
      have b3 := hX.out.1.1.2.2.2
      have b4 := hX.out.2.1
      have ij : (j : Int) < (m : Int) := by omega
      have ij0 : (0 : Int) ≤ (j : Int) := by omega
      have HV := Lib.hid hv
      have HV' := Lib.hid hv'
      clear e0 e1 e2 e3 hv e0' e1' e2' e3' hv'
      go_wp2_with fail
      go_still_tail 10, (by kernel_rfl)
      change wpList _ _ _ _ _ wr.drew
      have HXd : Hid (VW w (.int .i64 k) (.int .u64 (n : Int)) (.string s) (.slice (some ⟨b, off, none⟩) m cap) wr.drew ∧ (wr.drew.cell? ⟨w.heap.size + 1, 3, none⟩ = some (.slice (some ⟨b', off', none⟩) m cap') ∧ w.heap.size + 1 < wr.drew.heap.size)) := Lib.hid ⟨hX.out.1.drew, hX.out.2⟩
      clear f0 f1 f2 f3 g0 g1 g2 g3 b3 b4
      generalize wr.drew = wd at *
      go_wp2_with fail
      refine (IH.out l[j] (List.getElem_mem hjl) l'[j] _ _ _ _ _ _ _ _ wd (HV.out.later HXd.out.1.2.2) (HV'.out.later HXd.out.1.2.2)).mono ?_
      rintro r w5 ⟨rfl, hb5⟩
      have HX5 : Hid (VW w (.int .i64 k) (.int .u64 (n : Int)) (.string s) (.slice (some ⟨b, off, none⟩) m cap) w5 ∧ (w5.cell? ⟨w.heap.size + 1, 3, none⟩ = some (.slice (some ⟨b', off', none⟩) m cap') ∧ w.heap.size + 1 < w5.heap.size)) := Lib.hid ⟨HXd.out.1.later hb5, (hb5.cell (p := ⟨w.heap.size + 1, 3, none⟩) HXd.out.2.2).trans HXd.out.2.1, Nat.lt_of_lt_of_le HXd.out.2.2 hb5.size⟩
      clear hb5
      by_cases hs : sameT l[j] l'[j] = true
      · have HSS := Lib.hid hs
        rw [hs]
        clear hs
        go_wp2
        go_roundw
        case rel =>
          refine ⟨j + 1, by omega, by go_num, Lib.hid (fun i h h' hi => ?_), HX5⟩
          by_cases hij : i = j
          · subst hij; exact HSS.out
          · exact hS.out i h h' (by omega)
        case measure => simp [intOf]; omega
      · have hss : sameT l[j] l'[j] = false := by simpa using hs
        have HALL : Hid (R = false) := Lib.hid (by
          rw [HR.out]
          cases hx : sameL l l' with
          | false => rfl
          | true => exact absurd (HS.out.1 hx j hjl hjl') hs)
        have HB := Lib.hid HX5.out.1.2.2
        rw [hss]
        clear hs hss
        go_wp2
        go_ret
        exact ⟨by rw [HALL.out]; rfl, HB.out⟩
    · have HALL : Hid (R = true) := Lib.hid (by
        rw [HR.out]
        exact HS.out.2 (fun i h h' => hS.out i h h' (by have := HM.out; omega)))
      have HB := Lib.hid hX.out.1.2.2
      go_wp2
      go_ret
      exact ⟨by rw [HALL.out]; rfl, HB.out⟩

theorem rsame_any : ∀ (t : Tr), ∀ (u : Tr) (c0 c1 c2 c3 d0 d1 d2 d3 : Value) (w : World), VIn w t c0 c1 c2 c3 → VIn w u d0 d1 d2 d3 → Calls Tryz.prog 35 #[.agg #[c0, c1, c2, c3], .agg #[d0, d1, d2, d3]] w fun e w' => e = .returned (.bool (sameT t u)) ∧ Below w.heap.size w w' := by
  refine Tr.ind ?_
  intro k n s l ih u c0 c1 c2 c3 d0 d1 d2 d3 w h h'
  obtain ⟨k', n', s', l'⟩ := u
  unfold VIn at h h'
  obtain ⟨rfl, rfl, hn, rfl, ⟨_, hlen⟩, o, cap, b, off, rfl, ho, hl⟩ := h
  obtain ⟨rfl, rfl, hn', rfl, ⟨_, hlen'⟩, o', cap', b', off', rfl, ho', hl'⟩ := h'
  unfold sameT
  by_cases h1 : k = k'
  · by_cases h2 : n = n'
    · by_cases h3 : s = s'
      · rw [decide_eq_true h1, decide_eq_true h2, decide_eq_true h3, Bool.true_and, Bool.true_and, Bool.true_and]
        subst h1 h2 h3
        by_cases h4 : l.length = l'.length
        · exact rsame_list k n s o o' cap b off cap' b' off' l l' hlen h4 ih w ho hl ho' hl'
        · rw [sameL_len l l' h4]
          exact rsame_len k n s o o' l.length l'.length cap cap' h4 w
      · rw [decide_eq_true h1, decide_eq_true h2, decide_eq_false h3]
        subst h1 h2
        simpa using rsame_text k n s s' o o' l.length l'.length cap cap' h3 w
    · rw [decide_eq_true h1, decide_eq_false h2]
      subst h1
      simpa using rsame_num k n n' s s' o o' l.length l'.length cap cap' h2 w
  · rw [decide_eq_false h1]
    simpa using rsame_kind k k' n n' s s' o o' l.length l'.length cap cap' h1 w
end Go.Proofs.YtjfjliobencppaaGreatDoor

namespace Go.Proofs.YtjfjliobencppaaGreatDoor.Cf
open Go.RowKit

set_option maxRecDepth 100000 in
set_option maxHeartbeats 4000000 in
theorem rsame_of {w : World} {c0 c1 c2 d0 d1 d2 : Value} (t u : Tr) (hc : ∀ wz, Below w.heap.size w wz → Calls Tryz.prog 28 #[.agg #[c0, c1, c2]] wz (WrP t wz)) (hd : ∀ wz, Below w.heap.size w wz → Calls Tryz.prog 28 #[.agg #[d0, d1, d2]] wz (WrP u wz))
    (h1c : c0.oneCell' = true ∧ c1.oneCell' = true ∧ c2.oneCell' = true) (h1d : d0.oneCell' = true ∧ d1.oneCell' = true ∧ d2.oneCell' = true) : Calls Tryz.prog 15 #[.agg #[c0, c1, c2], .agg #[d0, d1, d2]] w fun e w' => e = .returned (.bool (sameT t u)) ∧ Below w.heap.size w w' := by
  have KC := Lib.hid hc
  have KD := Lib.hid hd
  clear hc hd
  obtain ⟨W0, hW0⟩ : ∃ W0, W0 = ((w.alloc (.cells #[c0, c1, c2] 37)).alloc (.cells #[d0, d1, d2] 37)) := ⟨_, rfl⟩
  have HX0 : Hid (Bk W0.drew w.heap.size #[c0, c1, c2] 37) := Lib.hid (by rw [hW0]; have h := (alloc_at (w := w) (g := w.heap.size) #[c0, c1, c2] 37 rfl).later (alloc_below _ (.cells #[d0, d1, d2] 37)); exact h)
  have HY0 : Hid (Bk W0.drew (w.heap.size + 1) #[d0, d1, d2] 37) := Lib.hid (by rw [hW0]; exact alloc_at (w := w.alloc (.cells #[c0, c1, c2] 37)) (g := w.heap.size + 1) _ _ (by simp))
  have HB0 : Hid (Below w.heap.size w W0.drew) := Lib.hid (by rw [hW0]; exact ((alloc_below _ _).trans ((alloc_below _ _).mono (by simp))).drew)
  go_enter Tryz.func15, Tryz.ntmps15
  go_upto_region 1 with (fail)
  rw [← hW0]
  clear hW0
  have mkS : Hid (∀ wz, Bk wz w.heap.size #[c0, c1, c2] 37 → Bk wz (w.heap.size + 1) #[d0, d1, d2] 37 → wz.cell? ⟨w.heap.size, 0, none⟩ = some c0 ∧ wz.cell? ⟨w.heap.size, 1, none⟩ = some c1 ∧ wz.cell? ⟨w.heap.size, 2, none⟩ = some c2 ∧ wz.cell? ⟨w.heap.size + 1, 0, none⟩ = some d0 ∧ wz.cell? ⟨w.heap.size + 1, 1, none⟩ = some d1 ∧ wz.cell? ⟨w.heap.size + 1, 2, none⟩ = some d2 ∧ Hid True) := Lib.hid (fun wz h0 h1 => ⟨(cell_of_row _ _ 0 _ _ _ h0).trans rfl, (cell_of_row _ _ 1 _ _ _ h0).trans rfl, (cell_of_row _ _ 2 _ _ _ h0).trans rfl, (cell_of_row _ _ 0 _ _ _ h1).trans rfl, (cell_of_row _ _ 1 _ _ _ h1).trans rfl, (cell_of_row _ _ 2 _ _ _ h1).trans rfl, Lib.hid True.intro⟩)
  refine wp_region_held_drew (S := fun wz => wz.cell? ⟨w.heap.size, 0, none⟩ = some c0 ∧ wz.cell? ⟨w.heap.size, 1, none⟩ = some c1 ∧ wz.cell? ⟨w.heap.size, 2, none⟩ = some c2 ∧ wz.cell? ⟨w.heap.size + 1, 0, none⟩ = some d0 ∧ wz.cell? ⟨w.heap.size + 1, 1, none⟩ = some d1 ∧ wz.cell? ⟨w.heap.size + 1, 2, none⟩ = some d2 ∧ Hid True) (by kernel_rfl) (mkS.out _ HX0.out HY0.out) (fun hHeld => ?_)
  generalize W0.drew = wc0 at *
  refine wpAnyH_take (i := 0) (oi := ⟨some 5, _, _, _, _, _⟩) (v := ?_) rfl (by kernel_rfl) (by kernel_rfl) (by kernel_rfl) (fun _ _ _ h => h) (Or.inl ⟨by rfl, by (intro w hSw; (try dsimp only at hSw); go_simp; try with_reducible rfl)⟩) hHeld ?_
  try simp only [Act.put, List.setIfInBounds_toArray, List.set_cons_zero, List.set_cons_succ]
  refine wpAnyH_take (i := 2) (oi := ⟨some 7, _, _, _, _, _⟩) (v := ?_) rfl (by kernel_rfl) (by kernel_rfl) (by kernel_rfl) (fun _ _ _ h => h) (Or.inl ⟨by rfl, by (intro w hSw; (try dsimp only at hSw); go_simp; try with_reducible rfl)⟩) hHeld ?_
  try simp only [Act.put, List.setIfInBounds_toArray, List.set_cons_zero, List.set_cons_succ]
  refine wpAnyH_ready (rs := [1]) (by kernel_rfl) (by simp) ?_
  refine AllReadyH.cons (o := ⟨some 6, _, _, _, _, _⟩) rfl (fun K hK => ?_) ?_
  · go_simp
    refine (KC.out _ HB0.out).mono ?_
    rintro ze wc1 ⟨o1, n1, p1, rfl, hv1, hbn⟩
    try go_simp
    have HX1 := Lib.hid (Bk.later HX0.out hbn)
    have HY1 := Lib.hid (Bk.later HY0.out hbn)
    have HB1 := Lib.hid (HB0.out.trans (hbn.mono HB0.out.size))
    have HV1 := Lib.hid hv1
    refine hK.out _ _ (mkS.out _ HX1.out HY1.out) (fun hHeld2 => ?_)
    clear hK K hHeld
    have hHeld := hHeld2
    clear hHeld2
    clear hbn
    try simp only [Act.put, List.setIfInBounds_toArray, List.set_cons_zero, List.set_cons_succ]
    refine wpAnyH_ready (rs := [3]) (by kernel_rfl) (by simp) ?_
    refine AllReadyH.cons (o := ⟨some 8, _, _, _, _, _⟩) rfl (fun K hK => ?_) ?_
    · go_simp
      refine (KD.out _ HB1.out).mono ?_
      rintro ze wc2 ⟨o2, n2, p2, rfl, hv2, hbn⟩
      try go_simp
      have HX2 := Lib.hid (Bk.later HX1.out hbn)
      have HY2 := Lib.hid (Bk.later HY1.out hbn)
      have HB2 := Lib.hid (HB1.out.trans (hbn.mono HB1.out.size))
      have HT2 := Lib.hid (VIn.later hbn _ (VInP.plain _ HV1.out))
      have HU2 := Lib.hid (VInP.plain _ hv2)
      refine hK.out _ _ (mkS.out _ HX2.out HY2.out) (fun hHeld2 => ?_)
      clear hK K hHeld
      have hHeld := hHeld2
      clear hHeld2
      clear hbn
      try simp only [Act.put, List.setIfInBounds_toArray, List.set_cons_zero, List.set_cons_succ]
      refine wpAnyH_ready (rs := [4]) (by kernel_rfl) (by simp) ?_
      refine AllReadyH.cons (o := ⟨some 9, _, _, _, _, _⟩) rfl (fun K hK => ?_) ?_
      · go_simp
        refine (rsame_any t u _ _ _ _ _ _ _ _ _ HT2.out HU2.out).mono ?_
        rintro ze wc3 ⟨rfl, hbn⟩
        try go_simp
        have HX3 := Lib.hid (Bk.later HX2.out hbn)
        have HY3 := Lib.hid (Bk.later HY2.out hbn)
        have HB3 := Lib.hid (HB2.out.trans (hbn.mono HB2.out.size))
        refine hK.out _ _ (mkS.out _ HX3.out HY3.out) (fun hHeld2 => ?_)
        clear hK K hHeld
        have hHeld := hHeld2
        clear hHeld2
        clear hbn
        try simp only [Act.put, List.setIfInBounds_toArray, List.set_cons_zero, List.set_cons_succ]
        refine wpAnyH_ready (rs := [5]) (by kernel_rfl) (by simp) ?_
        refine AllReadyH.cons (o := ⟨some 4, _, _, _, _, _⟩) rfl (fun K hK => ?_) ?_
        · go_simp
          refine hK.out _ _ (mkS.out _ HX3.out HY3.out) (fun hHeld2 => ?_)
          clear hK K hHeld
          have hHeld := hHeld2
          clear hHeld2
          try simp only [Act.put, List.setIfInBounds_toArray, List.set_cons_zero, List.set_cons_succ]
          refine wpAnyH_done (by kernel_rfl) ?_ _
          simp only [Exit.then]
          apply_assumption
          try go_wp2
          refine bodyPost_ret (v := .bool (sameT t u)) (by simp [results, Tryz.results15, go_sem, *]) rfl ⟨rfl, HB3.out⟩
        · exact AllReadyH.nil
      · exact AllReadyH.nil
    · exact AllReadyH.nil
  · exact AllReadyH.nil
end Go.Proofs.YtjfjliobencppaaGreatDoor.Cf
