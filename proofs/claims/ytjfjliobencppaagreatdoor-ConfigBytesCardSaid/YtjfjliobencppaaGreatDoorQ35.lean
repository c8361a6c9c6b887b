/- codec.Same.; The document's Same.; config: the document's Same.; config: plain facts for ConfigFinds: trees compared, configs of one listener, rows under turns.; config: ConfigBytes, over awake. -/
import Derived.Test.YtjfjliobencppaaGreatDoorQ05
import Derived.Test.YtjfjliobencppaaGreatDoorQ04
import Derived.StillTailTactics
import Derived.Test.YtjfjliobencppaaGreatDoorQ30
import Derived.Test.YtjfjliobencppaaGreatDoorQ34
import Derived.Test.YtjfjliobencppaaGreatDoorQ31
set_option linter.unusedVariables false
set_option linter.unusedSimpArgs false
namespace Go.Proofs.YtjfjliobencppaaGreatDoor
open Go.RowKit

theorem bytes_ne {a b : ByteArray} (h : a ≠ b) : (a.toList == b.toList) = false := by
  rw [beq_eq_false_iff_ne]
  intro e
  apply h
  apply ByteArray.ext
  apply Array.ext'
  rw [Lib.toList_data, Lib.toList_data] at e
  exact e

end Go.Proofs.YtjfjliobencppaaGreatDoor

namespace Go.Proofs.YtjfjliobencppaaGreatDoor
open Go.RowKit

set_option maxRecDepth 100000 in
theorem rsame_kind (k k' : Int) (n n' : Nat) (s s' : ByteArray) (o o' : Option Addr) (m m' cap cap' : Nat) (hk : k ≠ k') (w : World) :
    Calls Tryz.prog 35 #[.agg #[.int .i64 k, .int .u64 (n : Int), .string s, .slice o m cap], .agg #[.int .i64 k', .int .u64 (n' : Int), .string s', .slice o' m' cap']] w fun e w' => e = .returned (.bool false) ∧ Below w.heap.size w w' := by
  have q1 : (k != k') = true := by rw [bne_iff_ne]; exact hk
  clear hk
  have H0 := Lib.hid (VW.new w (.int .i64 k) (.int .u64 (n : Int)) (.string s) (.slice o m cap) 81)
  obtain ⟨w0, hw0⟩ : ∃ w0, w0 = w.alloc (.cells #[.int .i64 k, .int .u64 (n : Int), .string s, .slice o m cap] 81) := ⟨_, rfl⟩
  rw [← hw0] at H0
  have H1 := Lib.hid (VW.new w0 (.int .i64 k') (.int .u64 (n' : Int)) (.string s') (.slice o' m' cap') 81)
  have HS : Hid (w0.heap.size = w.heap.size + 1) := Lib.hid (by rw [hw0]; simp)
  have HW := Lib.hid hw0
  clear hw0
  go_enter Tryz.func35, Tryz.ntmps35
  go_upto_region 1 with fail
  rw [← HW.out]
  refine gen_wp (S := fun wz => Hid (VW w (.int .i64 k) (.int .u64 (n : Int)) (.string s) (.slice o m cap) wz ∧ VW w0 (.int .i64 k') (.int .u64 (n' : Int)) (.string s') (.slice o' m' cap') wz)) (Lib.hid ⟨H0.out.later H1.out.2.2, H1.out⟩) ?_
  intro W1 HX
  obtain ⟨c0, c1, c2, c3⟩ := HX.out.1.1
  obtain ⟨d0, d1, d2, d3⟩ := HX.out.2.1
  have HB := Lib.hid HX.out.1.2.2
  rw [HS.out] at d0 d1 d2 d3
  clear H0 H1 HW HX HS
  go_wp2
  go_ret
  exact ⟨rfl, HB.out⟩

set_option maxRecDepth 100000 in
theorem rsame_num (k : Int) (n n' : Nat) (s s' : ByteArray) (o o' : Option Addr) (m m' cap cap' : Nat) (hn : n ≠ n') (w : World) :
    Calls Tryz.prog 35 #[.agg #[.int .i64 k, .int .u64 (n : Int), .string s, .slice o m cap], .agg #[.int .i64 k, .int .u64 (n' : Int), .string s', .slice o' m' cap']] w fun e w' => e = .returned (.bool false) ∧ Below w.heap.size w w' := by
  have q1 : (k != k) = false := by simp
  have q2 : ((n : Int) != (n' : Int)) = true := by rw [bne_iff_ne]; omega
  clear hn
  have H0 := Lib.hid (VW.new w (.int .i64 k) (.int .u64 (n : Int)) (.string s) (.slice o m cap) 81)
  obtain ⟨w0, hw0⟩ : ∃ w0, w0 = w.alloc (.cells #[.int .i64 k, .int .u64 (n : Int), .string s, .slice o m cap] 81) := ⟨_, rfl⟩
  rw [← hw0] at H0
  have H1 := Lib.hid (VW.new w0 (.int .i64 k) (.int .u64 (n' : Int)) (.string s') (.slice o' m' cap') 81)
  have HS : Hid (w0.heap.size = w.heap.size + 1) := Lib.hid (by rw [hw0]; simp)
  have HW := Lib.hid hw0
  clear hw0
  go_enter Tryz.func35, Tryz.ntmps35
  go_upto_region 1 with fail
  rw [← HW.out]
  refine gen_wp (S := fun wz => Hid (VW w (.int .i64 k) (.int .u64 (n : Int)) (.string s) (.slice o m cap) wz ∧ VW w0 (.int .i64 k) (.int .u64 (n' : Int)) (.string s') (.slice o' m' cap') wz)) (Lib.hid ⟨H0.out.later H1.out.2.2, H1.out⟩) ?_
  intro W1 HX
  obtain ⟨c0, c1, c2, c3⟩ := HX.out.1.1
  obtain ⟨d0, d1, d2, d3⟩ := HX.out.2.1
  have HB := Lib.hid HX.out.1.2.2
  rw [HS.out] at d0 d1 d2 d3
  clear H0 H1 HW HX HS
  go_wp2
  go_ret
  exact ⟨rfl, HB.out⟩

set_option maxRecDepth 100000 in
theorem rsame_text (k : Int) (n : Nat) (s s' : ByteArray) (o o' : Option Addr) (m m' cap cap' : Nat) (hs : s ≠ s') (w : World) :
    Calls Tryz.prog 35 #[.agg #[.int .i64 k, .int .u64 (n : Int), .string s, .slice o m cap], .agg #[.int .i64 k, .int .u64 (n : Int), .string s', .slice o' m' cap']] w fun e w' => e = .returned (.bool false) ∧ Below w.heap.size w w' := by
  have q1 : (k != k) = false := by simp
  have q2 : ((n : Int) != (n : Int)) = false := by simp
  have q3 := bytes_ne hs
  have q3' : (s.toList != s'.toList) = true := by simp [bne, q3]
  clear hs
  have H0 := Lib.hid (VW.new w (.int .i64 k) (.int .u64 (n : Int)) (.string s) (.slice o m cap) 81)
  obtain ⟨w0, hw0⟩ : ∃ w0, w0 = w.alloc (.cells #[.int .i64 k, .int .u64 (n : Int), .string s, .slice o m cap] 81) := ⟨_, rfl⟩
  rw [← hw0] at H0
  have H1 := Lib.hid (VW.new w0 (.int .i64 k) (.int .u64 (n : Int)) (.string s') (.slice o' m' cap') 81)
  have HS : Hid (w0.heap.size = w.heap.size + 1) := Lib.hid (by rw [hw0]; simp)
  have HW := Lib.hid hw0
  clear hw0
  go_enter Tryz.func35, Tryz.ntmps35
  go_upto_region 1 with fail
  rw [← HW.out]
  refine gen_wp (S := fun wz => Hid (VW w (.int .i64 k) (.int .u64 (n : Int)) (.string s) (.slice o m cap) wz ∧ VW w0 (.int .i64 k) (.int .u64 (n : Int)) (.string s') (.slice o' m' cap') wz)) (Lib.hid ⟨H0.out.later H1.out.2.2, H1.out⟩) ?_
  intro W1 HX
  obtain ⟨c0, c1, c2, c3⟩ := HX.out.1.1
  obtain ⟨d0, d1, d2, d3⟩ := HX.out.2.1
  have HB := Lib.hid HX.out.1.2.2
  rw [HS.out] at d0 d1 d2 d3
  clear H0 H1 HW HX HS
  go_wp2
  go_ret
  exact ⟨rfl, HB.out⟩

set_option maxRecDepth 100000 in
theorem rsame_len (k : Int) (n : Nat) (s : ByteArray) (o o' : Option Addr) (m m' cap cap' : Nat) (hm : m ≠ m') (w : World) :
    Calls Tryz.prog 35 #[.agg #[.int .i64 k, .int .u64 (n : Int), .string s, .slice o m cap], .agg #[.int .i64 k, .int .u64 (n : Int), .string s, .slice o' m' cap']] w fun e w' => e = .returned (.bool false) ∧ Below w.heap.size w w' := by
  have q1 : (k != k) = false := by simp
  have q2 : ((n : Int) != (n : Int)) = false := by simp
  have q3 : (s.toList != s.toList) = false := by simp
  have q4 : ((m : Int) != (m' : Int)) = true := by rw [bne_iff_ne]; omega
  clear hm
  have H0 := Lib.hid (VW.new w (.int .i64 k) (.int .u64 (n : Int)) (.string s) (.slice o m cap) 81)
  obtain ⟨w0, hw0⟩ : ∃ w0, w0 = w.alloc (.cells #[.int .i64 k, .int .u64 (n : Int), .string s, .slice o m cap] 81) := ⟨_, rfl⟩
  rw [← hw0] at H0
  have H1 := Lib.hid (VW.new w0 (.int .i64 k) (.int .u64 (n : Int)) (.string s) (.slice o' m' cap') 81)
  have HS : Hid (w0.heap.size = w.heap.size + 1) := Lib.hid (by rw [hw0]; simp)
  have HW := Lib.hid hw0
  clear hw0
  go_enter Tryz.func35, Tryz.ntmps35
  go_upto_region 1 with fail
  rw [← HW.out]
  refine gen_wp (S := fun wz => Hid (VW w (.int .i64 k) (.int .u64 (n : Int)) (.string s) (.slice o m cap) wz ∧ VW w0 (.int .i64 k) (.int .u64 (n : Int)) (.string s) (.slice o' m' cap') wz)) (Lib.hid ⟨H0.out.later H1.out.2.2, H1.out⟩) ?_
  intro W1 HX
  obtain ⟨c0, c1, c2, c3⟩ := HX.out.1.1
  obtain ⟨d0, d1, d2, d3⟩ := HX.out.2.1
  have HB := Lib.hid HX.out.1.2.2
  rw [HS.out] at d0 d1 d2 d3
  clear H0 H1 HW HX HS
  go_wp2
  go_ret
  exact ⟨rfl, HB.out⟩

set_option maxRecDepth 100000 in
set_option maxHeartbeats 1000000 in
theorem rsame_list (k : Int) (n : Nat) (s : ByteArray) (o o' : Option Addr) (cap b off cap' b' off' : Nat) (l l' : List Tr) (hlen : l.length ≤ 1000000) (he : l.length = l'.length)
    (ih : ∀ x ∈ l, ∀ (y : Tr) (c0 c1 c2 c3 d0 d1 d2 d3 : Value) (w : World), VIn w x c0 c1 c2 c3 → VIn w y d0 d1 d2 d3 → Calls Tryz.prog 35 #[.agg #[c0, c1, c2, c3], .agg #[d0, d1, d2, d3]] w fun e w' => e = .returned (.bool (sameT x y)) ∧ Below w.heap.size w w')
    (w : World) (ho : 0 < l.length → o = some ⟨b, off, none⟩ ∧ b < w.heap.size) (hl : VInL w b off l) (ho' : 0 < l'.length → o' = some ⟨b', off', none⟩ ∧ b' < w.heap.size) (hl' : VInL w b' off' l') :
    Calls Tryz.prog 35 #[.agg #[.int .i64 k, .int .u64 (n : Int), .string s, .slice o l.length cap], .agg #[.int .i64 k, .int .u64 (n : Int), .string s, .slice o' l'.length cap']] w fun e w' => e = .returned (.bool (sameL l l')) ∧ Below w.heap.size w w' := by
  have HS := Lib.hid (sameL_iff l l' he)
  rw [← he]
  obtain ⟨m, hm⟩ : ∃ m, m = l.length := ⟨_, rfl⟩
  have hm' : m = l'.length := by rw [hm, he]
  rw [← hm] at hlen ⊢
  have HM := Lib.hid hm
  have HM' := Lib.hid hm'
  have HO := Lib.hid ho
  have HL := Lib.hid hl
  have HO' := Lib.hid ho'
  have HL' := Lib.hid hl'
  have IH := Lib.hid ih
  obtain ⟨R, hR⟩ : ∃ R, R = sameL l l' := ⟨_, rfl⟩
  rw [← hR]
  have HR := Lib.hid hR
  clear ho hl ho' hl' ih hm hm' he hR
  have q1 : (k != k) = false := by simp
  have q2 : ((n : Int) != (n : Int)) = false := by simp
  have q3 : (s.toList != s.toList) = false := by simp
  have q4 : ((m : Int) != (m : Int)) = false := by simp
  have H0 := Lib.hid (VW.new w (.int .i64 k) (.int .u64 (n : Int)) (.string s) (.slice o m cap) 81)
  obtain ⟨w0, hw0⟩ : ∃ w0, w0 = w.alloc (.cells #[.int .i64 k, .int .u64 (n : Int), .string s, .slice o m cap] 81) := ⟨_, rfl⟩
  rw [← hw0] at H0
  have H1 := Lib.hid (VW.new w0 (.int .i64 k) (.int .u64 (n : Int)) (.string s) (.slice o' m cap') 81)
  have HSZ : Hid (w0.heap.size = w.heap.size + 1) := Lib.hid (by rw [hw0]; simp)
  have HW := Lib.hid hw0
  clear hw0
  go_enter Tryz.func35, Tryz.ntmps35
  go_upto_region 1 with fail
  rw [← HW.out]
  refine gen_wp (S := fun wz => Hid (VW w (.int .i64 k) (.int .u64 (n : Int)) (.string s) (.slice o m cap) wz ∧ VW w0 (.int .i64 k) (.int .u64 (n : Int)) (.string s) (.slice o' m cap') wz)) (Lib.hid ⟨H0.out.later H1.out.2.2, H1.out⟩) ?_
  intro W1 HX
  obtain ⟨c0, c1, c2, c3⟩ := HX.out.1.1
  obtain ⟨d0, d1, d2, d3⟩ := HX.out.2.1
  have HB := Lib.hid HX.out.1.2.2
  rw [HSZ.out] at d0 d1 d2 d3
  have HX2 : Hid (VW w (.int .i64 k) (.int .u64 (n : Int)) (.string s) (.slice o m cap) W1 ∧ (W1.cell? ⟨w.heap.size + 1, 3, none⟩ = some (.slice o' m cap') ∧ w.heap.size + 1 < W1.heap.size)) := Lib.hid ⟨HX.out.1, d3, by rw [← HSZ.out]; exact HX.out.2.2.1⟩
  clear H0 H1 HW HX HSZ HB
  go_wp2_with fail
  clear c0 c1 c2 c3 d0 d1 d2 d3
  go_loopw [37] (fun iv wr => ∃ j : Nat, j ≤ m ∧ iv = .int .i64 (j : Int) ∧ Hid (∀ i (h : i < l.length) (h' : i < l'.length), i < j → sameT l[i] l'[i] = true) ∧ Hid (VW w (.int .i64 k) (.int .u64 (n : Int)) (.string s) (.slice o m cap) wr ∧ (wr.cell? ⟨w.heap.size + 1, 3, none⟩ = some (.slice o' m cap') ∧ w.heap.size + 1 < wr.heap.size))) (fun iv _ => m - (intOf iv).toNat)
  case atStart => exact ⟨0, Nat.zero_le _, rfl, Lib.hid (fun i _ _ h => absurd h (by omega)), HX2⟩
  case round =>
    clear HX2
    obtain ⟨j, hj, rfl, hS, hX⟩ := hrel
    by_cases hjm : j < m
    · have hjl : j < l.length := by rw [← HM.out]; exact hjm
      have hjl' : j < l'.length := by rw [← HM'.out]; exact hjm
      obtain ⟨hoo, hbb⟩ := HO.out (by omega)
      subst hoo
      obtain ⟨hoo', hbb'⟩ := HO'.out (by omega)
      subst hoo'
      obtain ⟨d0, d1, d2, d3, e0, e1, e2, e3, hv⟩ := HL.out.at j hjl
      obtain ⟨k1, n1, s1, o1, len1, cap1, rfl, rfl, rfl, rfl⟩ := hv.cells
      obtain ⟨d0', d1', d2', d3', e0', e1', e2', e3', hv'⟩ := HL'.out.at j hjl'
      obtain ⟨k2, n2, s2, o2, len2, cap2, rfl, rfl, rfl, rfl⟩ := hv'.cells
      have f0 := (hX.out.1.2.2.cell (p := ⟨b, _, none⟩) hbb).trans e0
      have f1 := (hX.out.1.2.2.cell (p := ⟨b, _, none⟩) hbb).trans e1
      have f2 := (hX.out.1.2.2.cell (p := ⟨b, _, none⟩) hbb).trans e2
      have f3 := (hX.out.1.2.2.cell (p := ⟨b, _, none⟩) hbb).trans e3
      have g0 := (hX.out.1.2.2.cell (p := ⟨b', _, none⟩) hbb').trans e0'
      have g1 := (hX.out.1.2.2.cell (p := ⟨b', _, none⟩) hbb').trans e1'
      have g2 := (hX.out.1.2.2.cell (p := ⟨b', _, none⟩) hbb').trans e2'
      have g3 := (hX.out.1.2.2.cell (p := ⟨b', _, none⟩) hbb').trans e3'
      have b3 := hX.out.1.1.2.2.2
      have b4 := hX.out.2.1
      have ij : (j : Int) < (m : Int) := by omega
      have ij0 : (0 : Int) ≤ (j : Int) := by omega
      have HV := Lib.hid hv
      have HV' := Lib.hid hv'
      clear e0 e1 e2 e3 hv e0' e1' e2' e3' hv'
      go_wp2_with fail
      go_still_tail 10, (by kernel_rfl)
      change wpList _ _ _ _ _ wr.drew
      have HXd : Hid (VW w (.int .i64 k) (.int .u64 (n : Int)) (.string s) (.slice (some ⟨b, off, none⟩) m cap) wr.drew ∧ (wr.drew.cell? ⟨w.heap.size + 1, 3, none⟩ = some (.slice (some ⟨b', off', none⟩) m cap') ∧ w.heap.size + 1 < wr.drew.heap.size)) := Lib.hid ⟨hX.out.1.drew, hX.out.2⟩
      clear f0 f1 f2 f3 g0 g1 g2 g3 b3 b4
      generalize wr.drew = wd at *
      go_wp2_with fail
      refine (IH.out l[j] (List.getElem_mem hjl) l'[j] _ _ _ _ _ _ _ _ wd (HV.out.later HXd.out.1.2.2) (HV'.out.later HXd.out.1.2.2)).mono ?_
      rintro r w5 ⟨rfl, hb5⟩
      have HX5 : Hid (VW w (.int .i64 k) (.int .u64 (n : Int)) (.string s) (.slice (some ⟨b, off, none⟩) m cap) w5 ∧ (w5.cell? ⟨w.heap.size + 1, 3, none⟩ = some (.slice (some ⟨b', off', none⟩) m cap') ∧ w.heap.size + 1 < w5.heap.size)) := Lib.hid ⟨HXd.out.1.later hb5, (hb5.cell (p := ⟨w.heap.size + 1, 3, none⟩) HXd.out.2.2).trans HXd.out.2.1, Nat.lt_of_lt_of_le HXd.out.2.2 hb5.size⟩
      clear hb5
      by_cases hs : sameT l[j] l'[j] = true
      · have HSS := Lib.hid hs
        rw [hs]
        clear hs
        go_wp2
        go_roundw
        case rel =>
          refine ⟨j + 1, by omega, by go_num, Lib.hid (fun i h h' hi => ?_), HX5⟩
          by_cases hij : i = j
          · subst hij; exact HSS.out
          · exact hS.out i h h' (by omega)
        case measure => simp [intOf]; omega
      · have hss : sameT l[j] l'[j] = false := by simpa using hs
        have HALL : Hid (R = false) := Lib.hid (by
          rw [HR.out]
          cases hx : sameL l l' with
          | false => rfl
          | true => exact absurd (HS.out.1 hx j hjl hjl') hs)
        have HB := Lib.hid HX5.out.1.2.2
        rw [hss]
        clear hs hss
        go_wp2
        go_ret
        exact ⟨by rw [HALL.out]; rfl, HB.out⟩
    · have HALL : Hid (R = true) := Lib.hid (by
        rw [HR.out]
        exact HS.out.2 (fun i h h' => hS.out i h h' (by have := HM.out; omega)))
      have HB := Lib.hid hX.out.1.2.2
      go_wp2
      go_ret
      exact ⟨by rw [HALL.out]; rfl, HB.out⟩

theorem rsame_any : ∀ (t : Tr), ∀ (u : Tr) (c0 c1 c2 c3 d0 d1 d2 d3 : Value) (w : World), VIn w t c0 c1 c2 c3 → VIn w u d0 d1 d2 d3 → Calls Tryz.prog 35 #[.agg #[c0, c1, c2, c3], .agg #[d0, d1, d2, d3]] w fun e w' => e = .returned (.bool (sameT t u)) ∧ Below w.heap.size w w' := by
  refine Tr.ind ?_
  intro k n s l ih u c0 c1 c2 c3 d0 d1 d2 d3 w h h'
  obtain ⟨k', n', s', l'⟩ := u
  unfold VIn at h h'
  obtain ⟨rfl, rfl, hn, rfl, ⟨_, hlen⟩, o, cap, b, off, rfl, ho, hl⟩ := h
  obtain ⟨rfl, rfl, hn', rfl, ⟨_, hlen'⟩, o', cap', b', off', rfl, ho', hl'⟩ := h'
  unfold sameT
  by_cases h1 : k = k'
  · by_cases h2 : n = n'
    · by_cases h3 : s = s'
      · rw [decide_eq_true h1, decide_eq_true h2, decide_eq_true h3, Bool.true_and, Bool.true_and, Bool.true_and]
        subst h1 h2 h3
        by_cases h4 : l.length = l'.length
        · exact rsame_list k n s o o' cap b off cap' b' off' l l' hlen h4 ih w ho hl ho' hl'
        · rw [sameL_len l l' h4]
          exact rsame_len k n s o o' l.length l'.length cap cap' h4 w
      · rw [decide_eq_true h1, decide_eq_true h2, decide_eq_false h3]
        subst h1 h2
        simpa using rsame_text k n s s' o o' l.length l'.length cap cap' h3 w
    · rw [decide_eq_true h1, decide_eq_false h2]
      subst h1
      simpa using rsame_num k n n' s s' o o' l.length l'.length cap cap' h2 w
  · rw [decide_eq_false h1]
    simpa using rsame_kind k k' n n' s s' o o' l.length l'.length cap cap' h1 w
end Go.Proofs.YtjfjliobencppaaGreatDoor

namespace Go.Proofs.YtjfjliobencppaaGreatDoor.Cf
open Go.RowKit

set_option maxRecDepth 100000 in
set_option maxHeartbeats 4000000 in
theorem rsame_of {w : World} {c0 c1 c2 d0 d1 d2 : Value} (t u : Tr) (hc : ∀ wz, Below w.heap.size w wz → Calls Tryz.prog 28 #[.agg #[c0, c1, c2]] wz (WrP t wz)) (hd : ∀ wz, Below w.heap.size w wz → Calls Tryz.prog 28 #[.agg #[d0, d1, d2]] wz (WrP u wz))
    (h1c : c0.oneCell' = true ∧ c1.oneCell' = true ∧ c2.oneCell' = true) (h1d : d0.oneCell' = true ∧ d1.oneCell' = true ∧ d2.oneCell' = true) : Calls Tryz.prog 15 #[.agg #[c0, c1, c2], .agg #[d0, d1, d2]] w fun e w' => e = .returned (.bool (sameT t u)) ∧ Below w.heap.size w w' := by
  have KC := Lib.hid hc
  have KD := Lib.hid hd
  clear hc hd
  obtain ⟨W0, hW0⟩ : ∃ W0, W0 = ((w.alloc (.cells #[c0, c1, c2] 37)).alloc (.cells #[d0, d1, d2] 37)) := ⟨_, rfl⟩
  have HX0 : Hid (Bk W0.drew w.heap.size #[c0, c1, c2] 37) := Lib.hid (by rw [hW0]; have h := (alloc_at (w := w) (g := w.heap.size) #[c0, c1, c2] 37 rfl).later (alloc_below _ (.cells #[d0, d1, d2] 37)); exact h)
  have HY0 : Hid (Bk W0.drew (w.heap.size + 1) #[d0, d1, d2] 37) := Lib.hid (by rw [hW0]; exact alloc_at (w := w.alloc (.cells #[c0, c1, c2] 37)) (g := w.heap.size + 1) _ _ (by simp))
  have HB0 : Hid (Below w.heap.size w W0.drew) := Lib.hid (by rw [hW0]; exact ((alloc_below _ _).trans ((alloc_below _ _).mono (by simp))).drew)
  go_enter Tryz.func15, Tryz.ntmps15
  go_upto_region 1 with (fail)
  rw [← hW0]
  clear hW0
  have mkS : Hid (∀ wz, Bk wz w.heap.size #[c0, c1, c2] 37 → Bk wz (w.heap.size + 1) #[d0, d1, d2] 37 → wz.cell? ⟨w.heap.size, 0, none⟩ = some c0 ∧ wz.cell? ⟨w.heap.size, 1, none⟩ = some c1 ∧ wz.cell? ⟨w.heap.size, 2, none⟩ = some c2 ∧ wz.cell? ⟨w.heap.size + 1, 0, none⟩ = some d0 ∧ wz.cell? ⟨w.heap.size + 1, 1, none⟩ = some d1 ∧ wz.cell? ⟨w.heap.size + 1, 2, none⟩ = some d2 ∧ Hid True) := Lib.hid (fun wz h0 h1 => ⟨(cell_of_row _ _ 0 _ _ _ h0).trans rfl, (cell_of_row _ _ 1 _ _ _ h0).trans rfl, (cell_of_row _ _ 2 _ _ _ h0).trans rfl, (cell_of_row _ _ 0 _ _ _ h1).trans rfl, (cell_of_row _ _ 1 _ _ _ h1).trans rfl, (cell_of_row _ _ 2 _ _ _ h1).trans rfl, Lib.hid True.intro⟩)
  refine wp_region_held_drew (S := fun wz => wz.cell? ⟨w.heap.size, 0, none⟩ = some c0 ∧ wz.cell? ⟨w.heap.size, 1, none⟩ = some c1 ∧ wz.cell? ⟨w.heap.size, 2, none⟩ = some c2 ∧ wz.cell? ⟨w.heap.size + 1, 0, none⟩ = some d0 ∧ wz.cell? ⟨w.heap.size + 1, 1, none⟩ = some d1 ∧ wz.cell? ⟨w.heap.size + 1, 2, none⟩ = some d2 ∧ Hid True) (by kernel_rfl) (mkS.out _ HX0.out HY0.out) (fun hHeld => ?_)
  generalize W0.drew = wc0 at *
  refine wpAnyH_take (i := 0) (oi := ⟨some 5, _, _, _, _, _⟩) (v := ?_) rfl (by kernel_rfl) (by kernel_rfl) (by kernel_rfl) (fun _ _ _ h => h) (Or.inl ⟨by rfl, by (intro w hSw; (try dsimp only at hSw); go_simp; try with_reducible rfl)⟩) hHeld ?_
  try simp only [Act.put, List.setIfInBounds_toArray, List.set_cons_zero, List.set_cons_succ]
  refine wpAnyH_take (i := 2) (oi := ⟨some 7, _, _, _, _, _⟩) (v := ?_) rfl (by kernel_rfl) (by kernel_rfl) (by kernel_rfl) (fun _ _ _ h => h) (Or.inl ⟨by rfl, by (intro w hSw; (try dsimp only at hSw); go_simp; try with_reducible rfl)⟩) hHeld ?_
  try simp only [Act.put, List.setIfInBounds_toArray, List.set_cons_zero, List.set_cons_succ]
  refine wpAnyH_ready (rs := [1]) (by kernel_rfl) (by simp) ?_
  refine AllReadyH.cons (o := ⟨some 6, _, _, _, _, _⟩) rfl (fun K hK => ?_) ?_
  · go_simp
    refine (KC.out _ HB0.out).mono ?_
    rintro ze wc1 ⟨o1, n1, p1, rfl, hv1, hbn⟩
    try go_simp
    have HX1 := Lib.hid (Bk.later HX0.out hbn)
    have HY1 := Lib.hid (Bk.later HY0.out hbn)
    have HB1 := Lib.hid (HB0.out.trans (hbn.mono HB0.out.size))
    have HV1 := Lib.hid hv1
    refine hK.out _ _ (mkS.out _ HX1.out HY1.out) (fun hHeld2 => ?_)
    clear hK K hHeld
    have hHeld := hHeld2
    clear hHeld2
    clear hbn
    try simp only [Act.put, List.setIfInBounds_toArray, List.set_cons_zero, List.set_cons_succ]
    refine wpAnyH_ready (rs := [3]) (by kernel_rfl) (by simp) ?_
    refine AllReadyH.cons (o := ⟨some 8, _, _, _, _, _⟩) rfl (fun K hK => ?_) ?_
    · go_simp
      refine (KD.out _ HB1.out).mono ?_
      rintro ze wc2 ⟨o2, n2, p2, rfl, hv2, hbn⟩
      try go_simp
      have HX2 := Lib.hid (Bk.later HX1.out hbn)
      have HY2 := Lib.hid (Bk.later HY1.out hbn)
      have HB2 := Lib.hid (HB1.out.trans (hbn.mono HB1.out.size))
      have HT2 := Lib.hid (VIn.later hbn _ (VInP.plain _ HV1.out))
      have HU2 := Lib.hid (VInP.plain _ hv2)
      refine hK.out _ _ (mkS.out _ HX2.out HY2.out) (fun hHeld2 => ?_)
      clear hK K hHeld
      have hHeld := hHeld2
      clear hHeld2
      clear hbn
      try simp only [Act.put, List.setIfInBounds_toArray, List.set_cons_zero, List.set_cons_succ]
      refine wpAnyH_ready (rs := [4]) (by kernel_rfl) (by simp) ?_
      refine AllReadyH.cons (o := ⟨some 9, _, _, _, _, _⟩) rfl (fun K hK => ?_) ?_
      · go_simp
        refine (rsame_any t u _ _ _ _ _ _ _ _ _ HT2.out HU2.out).mono ?_
        rintro ze wc3 ⟨rfl, hbn⟩
        try go_simp
        have HX3 := Lib.hid (Bk.later HX2.out hbn)
        have HY3 := Lib.hid (Bk.later HY2.out hbn)
        have HB3 := Lib.hid (HB2.out.trans (hbn.mono HB2.out.size))
        refine hK.out _ _ (mkS.out _ HX3.out HY3.out) (fun hHeld2 => ?_)
        clear hK K hHeld
        have hHeld := hHeld2
        clear hHeld2
        clear hbn
        try simp only [Act.put, List.setIfInBounds_toArray, List.set_cons_zero, List.set_cons_succ]
        refine wpAnyH_ready (rs := [5]) (by kernel_rfl) (by simp) ?_
        refine AllReadyH.cons (o := ⟨some 4, _, _, _, _, _⟩) rfl (fun K hK => ?_) ?_
        · go_simp
          refine hK.out _ _ (mkS.out _ HX3.out HY3.out) (fun hHeld2 => ?_)
          clear hK K hHeld
          have hHeld := hHeld2
          clear hHeld2
          try simp only [Act.put, List.setIfInBounds_toArray, List.set_cons_zero, List.set_cons_succ]
          refine wpAnyH_done (by kernel_rfl) ?_ _
          simp only [Exit.then]
          apply_assumption
          try go_wp2
          refine bodyPost_ret (v := .bool (sameT t u)) (by simp [results, Tryz.results15, go_sem, *]) rfl ⟨rfl, HB3.out⟩
        · exact AllReadyH.nil
      · exact AllReadyH.nil
    · exact AllReadyH.nil
  · exact AllReadyH.nil
end Go.Proofs.YtjfjliobencppaaGreatDoor.Cf

namespace Go.Proofs.YtjfjliobencppaaGreatDoor.Cf
open Go.RowKit

mutual
theorem sameT_iff : ∀ (t u : Tr), sameT t u = true ↔ t = u
  | .mk k n s l, .mk k' n' s' l' => by
    have ih := sameL_iff l l'
    rw [sameT, Bool.and_eq_true, Bool.and_eq_true, Bool.and_eq_true, decide_eq_true_eq, decide_eq_true_eq, decide_eq_true_eq, ih, Tr.mk.injEq, and_assoc, and_assoc]
theorem sameL_iff : ∀ (l m : List Tr), sameL l m = true ↔ l = m
  | [], [] => by simp [sameL]
  | x :: xs, y :: ys => by
    rw [sameL, Bool.and_eq_true, sameT_iff x y, sameL_iff xs ys, List.cons.injEq]
  | [], _ :: _ => by simp [sameL]
  | _ :: _, [] => by simp [sameL]
end
theorem Ep.injv {r s : Ep} (h1 : r.ok) (h2 : s.ok) (h : r.trv = s.trv) : r = s := by
  obtain ⟨p, t⟩ := r
  obtain ⟨p', t'⟩ := s
  simp only [Ep.trv, rowT, strT, numT, Tr.mk.injEq, List.cons.injEq, and_true, true_and] at h
  obtain ⟨e1, e2⟩ := h
  have k := Pl.inj h1.1 h2.1 (str_inj e1)
  have a1 := h1.2
  have a2 := h2.2
  unfold Ep.u at e2
  simp only at *
  rw [k, show t = t' by omega]
theorem Cl.injv {r s : Cl} (h1 : ∀ e ∈ r.e, e.ok) (h2 : ∀ e ∈ s.e, e.ok) (h : r.trv = s.trv) : r = s := by
  obtain ⟨n, l⟩ := r
  obtain ⟨n', l'⟩ := s
  simp only [Cl.trv, rowT, strT, numT, Tr.mk.injEq, List.cons.injEq, and_true, true_and] at h
  obtain ⟨e1, e3⟩ := h
  have k3 : l = l' := map_inj_on (P := fun e : Ep => e.ok) (fun a b => Ep.injv) h1 h2 e3
  rw [e1, k3]
theorem Co.injv {a b : Co} (h1 : a.held) (h2 : b.held) (h : a.trv = b.trv) : a = b := by
  obtain ⟨v, l, c⟩ := a
  obtain ⟨v', l', c'⟩ := b
  simp only [Co.trv, rowT, strT, numT, Tr.mk.injEq, List.cons.injEq, and_true, true_and] at h
  obtain ⟨e1, e2, e3⟩ := h
  have k2 : l = l' := map_inj_on (P := fun l : Ls => l.p.ok) (fun a b => Ls.inj) (fun x hx => (h1.2.1 x hx).1) (fun x hx => (h2.2.1 x hx).1) e2
  have k3 : c = c' := map_inj_on (P := fun x : Cl => ∀ e ∈ x.e, e.ok) (fun a b => Cl.injv) h1.2.2 h2.2.2 e3
  rw [e1, k2, k3]
theorem sameT_co {a b : Co} (ha : a.held) (hb : b.held) : sameT a.trv b.trv = decide (a = b) := by
  by_cases h : a = b
  · subst h
    rw [decide_eq_true rfl]
    exact (sameT_iff _ _).2 rfl
  · rw [decide_eq_false h, Bool.eq_false_iff]
    intro k
    exact h (Co.injv ha hb ((sameT_iff _ _).1 k))
theorem CoIn.cells {w : World} {c0 c1 c2 : Value} {c : Co} (h : CoIn w c0 c1 c2 c) : c0.oneCell' = true ∧ c1.oneCell' = true ∧ c2.oneCell' = true := by
  obtain ⟨rfl, _, h1, h2⟩ := h
  obtain ⟨o, k, rfl⟩ := h1.form
  obtain ⟨o, k, rfl⟩ := h2.form
  exact ⟨rfl, rfl, rfl⟩
/-- The document's Same of two configs in memory. -/
theorem rsame_co {w : World} {c0 c1 c2 d0 d1 d2 : Value} {a b : Co} (ha : CoIn w c0 c1 c2 a) (hb : CoIn w d0 d1 d2 b) (sa : a.sized) (sb : b.sized) :
    Calls Tryz.prog 15 #[.agg #[c0, c1, c2], .agg #[d0, d1, d2]] w (TrP (decide (a = b)) w) := by
  have h := rsame_of a.trv b.trv (fun wz hz => value_any (ha.later hz) sa) (fun wz hz => value_any (hb.later hz) sb) ha.cells hb.cells
  rw [sameT_co ha.held hb.held] at h
  exact h
theorem same_co {w : World} {c0 c1 c2 d0 d1 d2 : Value} {a b : Co} (ha : CoIn w c0 c1 c2 a) (hb : CoIn w d0 d1 d2 b) (sa : a.sized) :
    Calls Tryz.prog 14 #[.agg #[c0, c1, c2], .agg #[d0, d1, d2]] w (TrP (decide (a = b)) w) :=
  same_any ha hb sa.1 sa.2.1 (fun x hx => (sa.2.2.1 x hx).2.1) (fun x hx => (sa.2.2.2 x hx).2)
/-- Has the i-th the name? -/
def pLs (L : List Ls) (nm : ByteArray) (i : Nat) : Bool := if h : i < L.length then L[i].name.toList == nm.toList else false
def pCl (L : List Cl) (nm : ByteArray) (i : Nat) : Bool := if h : i < L.length then L[i].name.toList == nm.toList else false
/-- What Listener, Cluster answer. -/
def FlP (L : List Ls) (nm : ByteArray) (w : World) (e : Ending) (w' : World) : Prop := ∃ (r : Int) (x : Ls) (oo : Option Addr) (cc : Nat), e = .returned (.tuple #[.agg #[.string x.name, .int .u8 (x.p.a : Int), .int .u8 (x.p.b : Int), .int .u8 (x.p.c : Int), .int .u8 (x.p.d : Int), .int .u16 (x.p.port : Int), .slice oo x.r.length cc], .bool (decide (0 ≤ r))]) ∧ (FirstP L.length (pLs L nm) r ∧ Rw 4 RtIn w' (.slice oo x.r.length cc) x.r ∧ ∀ k : Nat, r = (k : Int) → ∃ hk : k < L.length, x = L[k]) ∧ Below w.heap.size w w'
def FcP (L : List Cl) (nm : ByteArray) (w : World) (e : Ending) (w' : World) : Prop := ∃ (r : Int) (x : Cl) (oo : Option Addr) (cc : Nat), e = .returned (.tuple #[.agg #[.string x.name, .slice oo x.e.length cc], .bool (decide (0 ≤ r))]) ∧ (FirstP L.length (pCl L nm) r ∧ Rw 6 EpIn w' (.slice oo x.e.length cc) x.e ∧ ∀ k : Nat, r = (k : Int) → ∃ hk : k < L.length, x = L[k]) ∧ Below w.heap.size w w'
/-- A slice's capacity. -/
def Cap (v : Value) : Prop := ∀ o n c, v = .slice o n c → n ≤ c ∧ c ≤ maxLen
/-- A row of routes whose hosts are written to; of endpoints whose weights are. -/
def StrRow (B : Nat) (w : World) (v : Value) (n T : Nat) : Prop := ∃ o c, v = .slice o n c ∧ (0 < n → ∃ g cur, o = some ⟨g, 0, none⟩ ∧ B ≤ g ∧ Bk w g cur 62 ∧ ∀ j, j < n → ∃ s : ByteArray, cur[j * 4]? = some (.string s) ∧ s.size ≤ T)
def IntRow (B : Nat) (w : World) (v : Value) (n : Nat) : Prop := ∃ o c, v = .slice o n c ∧ (0 < n → ∃ g cur, o = some ⟨g, 0, none⟩ ∧ B ≤ g ∧ Bk w g cur 64 ∧ ∀ j, j < n → ∃ s : Int, cur[j * 6 + 5]? = some (.int .i64 s))
end Go.Proofs.YtjfjliobencppaaGreatDoor.Cf

namespace Go.Proofs.YtjfjliobencppaaGreatDoor.Cf
open Go.RowKit

set_option maxRecDepth 100000 in
set_option maxHeartbeats 4000000 in
theorem law_bytes {w : World} {c0 c1 c2 : Value} {a : Co} (ha : CoIn w c0 c1 c2 a) (hw : ∀ wz, Below w.heap.size w wz → Calls Tryz.prog 7 #[] wz (TrP true wz)) :
    Calls Tryz.prog 3 #[.agg #[c0, c1, c2]] w (TrP true w) := by
  have HA := Lib.hid ha
  have KW := Lib.hid hw
  have HB0 := Lib.hid (alloc_below w (.cells #[c0, c1, c2] 26))
  have HX0 := Lib.hid (alloc_at (w := w) (g := w.heap.size) #[c0, c1, c2] 26 rfl)
  have HH := Lib.hid ha.held
  have KL1 : Hid (∀ wz, Below w.heap.size w wz → Calls Tryz.prog 8 #[.agg #[c0, c1, c2]] wz (LiP a.lit wz)) := Lib.hid (fun wz h => light_any (HA.out.later h))
  have KB1 : Hid (a.lit → ∀ wz, Below w.heap.size w wz → Calls Tryz.prog 9 #[.agg #[c0, c1, c2]] wz fun e w' => e = .returned (.tuple #[.string a.out, .int .i64 (a.err : Nat)]) ∧ Below wz.heap.size wz w') := Lib.hid (fun hl wz h => bytes_any (HA.out.later h) hl.sized)
  have KTO : Hid (a.lit → ∀ wz, Below w.heap.size w wz → Calls Tryz.prog 11 #[.agg #[c0, c1, c2]] wz fun e w' => (∃ d1 d2, e = .returned (.agg #[.int .u64 (a.v : Int), d1, d2]) ∧ CoIn w' (.int .u64 (a.v : Int)) d1 d2 a) ∧ Below wz.heap.size wz w') := Lib.hid (fun hl wz h => by
    have h1 := HA.out.later h
    obtain ⟨rfl, _⟩ := HA.out
    exact to_any h1 hl.sized)
  have KRB : Hid (a.lit → ∀ wz d1 d2, CoIn wz (.int .u64 (a.v : Int)) d1 d2 a → Calls Tryz.prog 10 #[.agg #[.int .u64 (a.v : Int), d1, d2]] wz fun e w' => e = .returned (.tuple #[.string a.out, .int .i64 (a.err : Nat)]) ∧ Below wz.heap.size wz w') := Lib.hid (fun hl wz d1 d2 h => rbytes_of h hl.sized (hl.len HH.out) (fun wy hy => value_any (h.later hy) hl.sized))
  clear ha hw
  obtain ⟨f0, f1, f2⟩ := bk3 HX0.out
  go_enter Tryz.func3, Tryz.ntmps3
  go_upto_region 1 with fail
  generalize w.alloc (.cells #[c0, c1, c2] 26) = w0 at *
  go_wp2_with fail
  refine (KW.out _ HB0.out).mono ?_
  rintro e w1 ⟨rfl, hb⟩
  have HX1 := Lib.hid (Bk.later HX0.out hb)
  have HB1 := Lib.hid (HB0.out.trans (hb.mono HB0.out.size))
  clear hb f0 f1 f2
  obtain ⟨f0, f1, f2⟩ := bk3 HX1.out
  go_wp2_with fail
  refine (KL1.out _ HB1.out).mono ?_
  rintro e w2 ⟨l1, rfl, hl1, hb⟩
  have HX2 := Lib.hid (Bk.later HX1.out hb)
  have HB2 := Lib.hid (HB1.out.trans (hb.mono HB1.out.size))
  clear hb f0 f1 f2
  obtain ⟨f0, f1, f2⟩ := bk3 HX2.out
  cases l1 with
  | false =>
    go_wp2_with fail
    go_ret
    exact ⟨rfl, HB2.out⟩
  | true =>
    have HLA : Hid a.lit := Lib.hid (by first | exact hl1 rfl | exact hl1 trivial | assumption)
    try clear hl1
    go_wp2_with fail
    refine (KB1.out HLA.out _ HB2.out).mono ?_
    rintro e w3 ⟨rfl, hb⟩
    have HX3 := Lib.hid (Bk.later HX2.out hb)
    have HB3 := Lib.hid (HB2.out.trans (hb.mono HB2.out.size))
    clear hb f0 f1 f2
    obtain ⟨f0, f1, f2⟩ := bk3 HX3.out
    go_wp2_with fail
    refine (KTO.out HLA.out _ HB3.out).mono ?_
    rintro e w4 ⟨⟨d1, d2, rfl, hta⟩, hb⟩
    have HX4 := Lib.hid (Bk.later HX3.out hb)
    have HB4 := Lib.hid (HB3.out.trans (hb.mono HB3.out.size))
    clear hb f0 f1 f2
    obtain ⟨f0, f1, f2⟩ := bk3 HX4.out
    obtain ⟨od1, cd1, hfd1⟩ := hta.2.2.1.form
    obtain ⟨od2, cd2, hfd2⟩ := hta.2.2.2.form
    subst hfd1
    subst hfd2
    have HTA := Lib.hid hta
    clear hta
    go_wp2_with fail
    refine (KRB.out HLA.out _ _ _ HTA.out).mono ?_
    rintro e w5 ⟨rfl, hb⟩
    have HX5 := Lib.hid (Bk.later HX4.out hb)
    have HB5 := Lib.hid (HB4.out.trans (hb.mono HB4.out.size))
    clear hb f0 f1 f2
    obtain ⟨f0, f1, f2⟩ := bk3 HX5.out
    by_cases ea : a.err = 0
    · have HEA := Lib.hid ea
      have HPO := Lib.hid (parse_out HLA.out.sized HH.out ea)
      have hlen : a.out.size ≤ 1000000000 := by have := out_len ea; omega
      have K12 : Hid (∀ wz, Calls Tryz.prog 12 #[.string a.out] wz fun e w' => (∃ c0 c1 c2, e = .returned (.tuple #[.agg #[c0, c1, c2], .int .i64 (psE a.out : Int)]) ∧ CoIn w' c0 c1 c2 (psC a.out)) ∧ Below wz.heap.size wz w') := Lib.hid (fun wz => parse_any a.out hlen wz)
      have KPO : Hid (∀ wz, Below w.heap.size w wz → Calls Tryz.prog 13 #[.agg #[c0, c1, c2]] wz (TrP a.ports wz)) := Lib.hid (fun wz h => ports_any (HA.out.later h) HLA.out.sized)
      rw [ea]
      clear ea hlen
      generalize psE a.out = E at *
      generalize psC a.out = C at *
      generalize a.out = s1 at *
      go_wp2_with fail
      refine (K12.out _).mono ?_
      rintro e w7 ⟨⟨x0, x1, x2, rfl, hpc⟩, hb⟩
      have HX7 := Lib.hid (Bk.later HX5.out hb)
      have HB7 := Lib.hid (HB5.out.trans (hb.mono HB5.out.size))
      have HPC := Lib.hid hpc
      obtain ⟨ox1, cx1, hfx1⟩ := hpc.2.2.1.form
      obtain ⟨ox2, cx2, hfx2⟩ := hpc.2.2.2.form
      have hx0 := hpc.1
      clear hb f0 f1 f2 hpc
      obtain ⟨f0, f1, f2⟩ := bk3 HX7.out
      subst hfx1 hfx2 hx0
      go_upto_region 12 with fail
      have hb := alloc_below w7 (.cells #[.int .u64 (C.v : Int), .slice ox1 C.l.length cx1, .slice ox2 C.c.length cx2] 26)
      have HY8 := Lib.hid (alloc_at (w := w7) (g := w7.heap.size) #[.int .u64 (C.v : Int), .slice ox1 C.l.length cx1, .slice ox2 C.c.length cx2] 26 rfl)
      have HX8 := Lib.hid (Bk.later HX7.out hb)
      have HB8 := Lib.hid (HB7.out.trans (hb.mono HB7.out.size))
      have HP8 := Lib.hid (HPC.out.later hb)
      clear hb f0 f1 f2
      generalize w7.alloc (.cells #[.int .u64 (C.v : Int), .slice ox1 C.l.length cx1, .slice ox2 C.c.length cx2] 26) = w8 at *
      generalize w7.heap.size = g7 at *
      obtain ⟨f0, f1, f2⟩ := bk3 HX8.out
      go_wp2_with fail
      refine (KPO.out _ HB8.out).mono ?_
      rintro e w9 ⟨rfl, hb⟩
      have HX9 := Lib.hid (Bk.later HX8.out hb)
      have HY9 := Lib.hid (Bk.later HY8.out hb)
      have HB9 := Lib.hid (HB8.out.trans (hb.mono HB8.out.size))
      have HP9 := Lib.hid (HP8.out.later hb)
      clear hb f0 f1 f2
      obtain ⟨f0, f1, f2⟩ := bk3 HX9.out
      obtain ⟨e0, e1, e2⟩ := bk3 HY9.out
      obtain ⟨pp, hpp⟩ : ∃ pp, a.ports = pp := ⟨_, rfl⟩
      have HPP := Lib.hid hpp
      rw [hpp]
      clear hpp
      cases pp with
      | false =>
        obtain rfl : E = 4 := HPO.out.1 HPP.out
        go_wp2_with fail
        go_ret
        exact ⟨rfl, HB9.out⟩
      | true =>
        obtain rfl : E = 0 := (HPO.out.2 HPP.out).1
        obtain rfl : C = a := (HPO.out.2 HPP.out).2
        have KSM : Hid (∀ wz, CoIn wz (.int .u64 (C.v : Int)) (.slice ox1 C.l.length cx1) (.slice ox2 C.c.length cx2) C → Below w.heap.size w wz → Calls Tryz.prog 14 #[.agg #[.int .u64 (C.v : Int), .slice ox1 C.l.length cx1, .slice ox2 C.c.length cx2], .agg #[c0, c1, c2]] wz (TrP true wz)) := Lib.hid (fun wz h1 h2 => by
          have k := same_co h1 (HA.out.later h2) HLA.out.sized
          rwa [decide_eq_true (rfl : C = C)] at k)
        have KTX : Hid (∀ wz, CoIn wz (.int .u64 (C.v : Int)) (.slice ox1 C.l.length cx1) (.slice ox2 C.c.length cx2) C → Calls Tryz.prog 11 #[.agg #[.int .u64 (C.v : Int), .slice ox1 C.l.length cx1, .slice ox2 C.c.length cx2]] wz fun e w' => (∃ d1 d2, e = .returned (.agg #[.int .u64 (C.v : Int), d1, d2]) ∧ CoIn w' (.int .u64 (C.v : Int)) d1 d2 C) ∧ Below wz.heap.size wz w') := Lib.hid (fun wz h => to_any h HLA.out.sized)
        have KTO : Hid (∀ wz, Below w.heap.size w wz → Calls Tryz.prog 11 #[.agg #[c0, c1, c2]] wz fun e w' => (∃ d1 d2, e = .returned (.agg #[.int .u64 (C.v : Int), d1, d2]) ∧ CoIn w' (.int .u64 (C.v : Int)) d1 d2 C) ∧ Below wz.heap.size wz w') := Lib.hid (KTO.out HLA.out)
        have KRS : Hid (∀ wz t1 t2 s1 s2, CoIn wz (.int .u64 (C.v : Int)) t1 t2 C → CoIn wz (.int .u64 (C.v : Int)) s1 s2 C → Calls Tryz.prog 15 #[.agg #[.int .u64 (C.v : Int), t1, t2], .agg #[.int .u64 (C.v : Int), s1, s2]] wz (TrP true wz)) := Lib.hid (fun wz t1 t2 s1 s2 h1 h2 => by
          have k := rsame_co h1 h2 HLA.out.sized HLA.out.sized
          rwa [decide_eq_true (rfl : C = C)] at k)
        go_upto_region 14 with fail
        clear f0 f1 f2 e0 e1 e2
        have HX20 := Lib.hid (show Bk w9.drew w.heap.size #[c0, c1, c2] 26 from HX9.out)
        have HY20 := Lib.hid (show Bk w9.drew g7 #[.int .u64 (C.v : Int), .slice ox1 C.l.length cx1, .slice ox2 C.c.length cx2] 26 from HY9.out)
        have HB20 := Lib.hid HB9.out.drew
        have HP20 := Lib.hid (HP9.out.later (w' := w9.drew) ⟨rfl, rfl, rfl, Nat.le_refl _, fun _ _ => rfl⟩)
        have mkS : Hid (∀ wz, Bk wz w.heap.size #[c0, c1, c2] 26 → Bk wz g7 #[.int .u64 (C.v : Int), .slice ox1 C.l.length cx1, .slice ox2 C.c.length cx2] 26 → wz.cell? ⟨w.heap.size, 0, none⟩ = some c0 ∧ wz.cell? ⟨w.heap.size, 1, none⟩ = some c1 ∧ wz.cell? ⟨w.heap.size, 2, none⟩ = some c2 ∧ wz.cell? ⟨g7, 0, none⟩ = some (.int .u64 (C.v : Int)) ∧ wz.cell? ⟨g7, 1, none⟩ = some (.slice ox1 C.l.length cx1) ∧ wz.cell? ⟨g7, 2, none⟩ = some (.slice ox2 C.c.length cx2)) := Lib.hid (fun wz h k => ⟨(bk3 h).1, (bk3 h).2.1, (bk3 h).2.2, (bk3 k).1, (bk3 k).2.1, (bk3 k).2.2⟩)
        refine wp_region_held_drew (S := fun wz => wz.cell? ⟨w.heap.size, 0, none⟩ = some c0 ∧ wz.cell? ⟨w.heap.size, 1, none⟩ = some c1 ∧ wz.cell? ⟨w.heap.size, 2, none⟩ = some c2 ∧ wz.cell? ⟨g7, 0, none⟩ = some (.int .u64 (C.v : Int)) ∧ wz.cell? ⟨g7, 1, none⟩ = some (.slice ox1 C.l.length cx1) ∧ wz.cell? ⟨g7, 2, none⟩ = some (.slice ox2 C.c.length cx2)) (by kernel_rfl) (mkS.out _ HX20.out HY20.out) (fun hHeld => ?_)
        generalize w9.drew = wc20 at *
        refine wpAnyH_take (i := 0) (oi := ⟨some 45, _, _, _, _, _⟩) (v := ?_) rfl (by kernel_rfl) (by kernel_rfl) (by kernel_rfl) (fun _ _ _ h => h) (Or.inl ⟨by rfl, by (intro w hSw; (try dsimp only at hSw); go_simp; try with_reducible rfl)⟩) hHeld ?_
        try simp only [Act.put, List.setIfInBounds_toArray, List.set_cons_zero, List.set_cons_succ]
        refine wpAnyH_take (i := 1) (oi := ⟨some 46, _, _, _, _, _⟩) (v := ?_) rfl (by kernel_rfl) (by kernel_rfl) (by kernel_rfl) (fun _ _ _ h => h) (Or.inl ⟨by rfl, by (intro w hSw; (try dsimp only at hSw); go_simp; try with_reducible rfl)⟩) hHeld ?_
        try simp only [Act.put, List.setIfInBounds_toArray, List.set_cons_zero, List.set_cons_succ]
        refine wpAnyH_take (i := 2) (oi := ⟨some 47, _, _, _, _, _⟩) (v := ?_) rfl (by kernel_rfl) (by kernel_rfl) (by kernel_rfl) (fun _ _ _ h => h) (Or.inl ⟨by rfl, by (intro w hSw; (try dsimp only at hSw); go_simp; try with_reducible rfl)⟩) hHeld ?_
        try simp only [Act.put, List.setIfInBounds_toArray, List.set_cons_zero, List.set_cons_succ]
        refine wpAnyH_take (i := 3) (oi := ⟨some 48, _, _, _, _, _⟩) (v := ?_) rfl (by kernel_rfl) (by kernel_rfl) (by kernel_rfl) (fun _ _ _ h => h) (Or.inl ⟨by rfl, by (intro w hSw; (try dsimp only at hSw); go_simp; try with_reducible rfl)⟩) hHeld ?_
        try simp only [Act.put, List.setIfInBounds_toArray, List.set_cons_zero, List.set_cons_succ]
        refine wpAnyH_take (i := 4) (oi := ⟨some 49, _, _, _, _, _⟩) (v := ?_) rfl (by kernel_rfl) (by kernel_rfl) (by kernel_rfl) (fun _ _ _ h => h) (Or.inl ⟨by rfl, by (intro w hSw; (try dsimp only at hSw); go_simp; try with_reducible rfl)⟩) hHeld ?_
        try simp only [Act.put, List.setIfInBounds_toArray, List.set_cons_zero, List.set_cons_succ]
        refine wpAnyH_ready (rs := [5]) (by kernel_rfl) (by simp) ?_
        refine AllReadyH.cons (o := ⟨some 50, _, _, _, _, _⟩) rfl (fun K hK => ?_) ?_
        · go_simp
          refine (KSM.out _ HP20.out HB20.out).mono ?_
          rintro ze wc21 ⟨rfl, hbn⟩
          try go_simp
          have HX21 := Lib.hid (Bk.later HX20.out hbn)
          have HY21 := Lib.hid (Bk.later HY20.out hbn)
          have HB21 := Lib.hid (HB20.out.trans (hbn.mono HB20.out.size))
          have HP21 := Lib.hid (HP20.out.later hbn)
          refine hK.out _ _ (mkS.out _ HX21.out HY21.out) (fun hHeld2 => ?_)
          clear hK K hHeld
          have hHeld := hHeld2
          clear hHeld2
          clear hbn
          try simp only [Act.put, List.setIfInBounds_toArray, List.set_cons_zero, List.set_cons_succ]
          refine wpAnyH_take (i := 6) (oi := ⟨some 51, _, _, _, _, _⟩) (v := ?_) rfl (by kernel_rfl) (by kernel_rfl) (by kernel_rfl) (fun _ _ _ h => h) (Or.inl ⟨by rfl, by (intro w hSw; (try dsimp only at hSw); go_simp; try with_reducible rfl)⟩) hHeld ?_
          try simp only [Act.put, List.setIfInBounds_toArray, List.set_cons_zero, List.set_cons_succ]
          refine wpAnyH_take (i := 7) (oi := ⟨some 52, _, _, _, _, _⟩) (v := ?_) rfl (by kernel_rfl) (by kernel_rfl) (by kernel_rfl) (fun _ _ _ h => h) (Or.inl ⟨by rfl, by (intro w hSw; (try dsimp only at hSw); go_simp; try with_reducible rfl)⟩) hHeld ?_
          try simp only [Act.put, List.setIfInBounds_toArray, List.set_cons_zero, List.set_cons_succ]
          refine wpAnyH_take (i := 8) (oi := ⟨some 53, _, _, _, _, _⟩) (v := ?_) rfl (by kernel_rfl) (by kernel_rfl) (by kernel_rfl) (fun _ _ _ h => h) (Or.inl ⟨by rfl, by (intro w hSw; (try dsimp only at hSw); go_simp; try with_reducible rfl)⟩) hHeld ?_
          try simp only [Act.put, List.setIfInBounds_toArray, List.set_cons_zero, List.set_cons_succ]
          refine wpAnyH_take (i := 10) (oi := ⟨some 55, _, _, _, _, _⟩) (v := ?_) rfl (by kernel_rfl) (by kernel_rfl) (by kernel_rfl) (fun _ _ _ h => h) (Or.inl ⟨by rfl, by (intro w hSw; (try dsimp only at hSw); go_simp; try with_reducible rfl)⟩) hHeld ?_
          try simp only [Act.put, List.setIfInBounds_toArray, List.set_cons_zero, List.set_cons_succ]
          refine wpAnyH_ready (rs := [9]) (by kernel_rfl) (by simp) ?_
          refine AllReadyH.cons (o := ⟨some 54, _, _, _, _, _⟩) rfl (fun K hK => ?_) ?_
          · go_simp
            refine (KTX.out _ HP21.out).mono ?_
            rintro ze wc22 ⟨⟨t1, t2, rfl, hta⟩, hbn⟩
            try go_simp
            have HX22 := Lib.hid (Bk.later HX21.out hbn)
            have HY22 := Lib.hid (Bk.later HY21.out hbn)
            have HB22 := Lib.hid (HB21.out.trans (hbn.mono HB21.out.size))
            have HP22 := Lib.hid (HP21.out.later hbn)
            have HTA22 := Lib.hid hta
            obtain ⟨ot1, ct1, hft1⟩ := hta.2.2.1.form
            obtain ⟨ot2, ct2, hft2⟩ := hta.2.2.2.form
            subst hft1
            subst hft2
            clear hta
            refine hK.out _ _ (mkS.out _ HX22.out HY22.out) (fun hHeld2 => ?_)
            clear hK K hHeld
            have hHeld := hHeld2
            clear hHeld2
            clear hbn
            try simp only [Act.put, List.setIfInBounds_toArray, List.set_cons_zero, List.set_cons_succ]
            refine wpAnyH_ready (rs := [11]) (by kernel_rfl) (by simp) ?_
            refine AllReadyH.cons (o := ⟨some 56, _, _, _, _, _⟩) rfl (fun K hK => ?_) ?_
            · go_simp
              refine (KTO.out _ HB22.out).mono ?_
              rintro ze wc23 ⟨⟨s1, s2, rfl, htb⟩, hbn⟩
              try go_simp
              have HX23 := Lib.hid (Bk.later HX22.out hbn)
              have HY23 := Lib.hid (Bk.later HY22.out hbn)
              have HB23 := Lib.hid (HB22.out.trans (hbn.mono HB22.out.size))
              have HP23 := Lib.hid (HP22.out.later hbn)
              have HTA23 := Lib.hid (HTA22.out.later hbn)
              have HTB23 := Lib.hid htb
              obtain ⟨os1, cs1, hfs1⟩ := htb.2.2.1.form
              obtain ⟨os2, cs2, hfs2⟩ := htb.2.2.2.form
              subst hfs1
              subst hfs2
              clear htb
              refine hK.out _ _ (mkS.out _ HX23.out HY23.out) (fun hHeld2 => ?_)
              clear hK K hHeld
              have hHeld := hHeld2
              clear hHeld2
              clear hbn
              try simp only [Act.put, List.setIfInBounds_toArray, List.set_cons_zero, List.set_cons_succ]
              refine wpAnyH_ready (rs := [12]) (by kernel_rfl) (by simp) ?_
              refine AllReadyH.cons (o := ⟨some 57, _, _, _, _, _⟩) rfl (fun K hK => ?_) ?_
              · go_simp
                refine (KRS.out _ _ _ _ _ HTA23.out HTB23.out).mono ?_
                rintro ze wc24 ⟨rfl, hbn⟩
                try go_simp
                have HX24 := Lib.hid (Bk.later HX23.out hbn)
                have HY24 := Lib.hid (Bk.later HY23.out hbn)
                have HB24 := Lib.hid (HB23.out.trans (hbn.mono HB23.out.size))
                have HP24 := Lib.hid (HP23.out.later hbn)
                have HTA24 := Lib.hid (HTA23.out.later hbn)
                have HTB24 := Lib.hid (HTB23.out.later hbn)
                refine hK.out _ _ (mkS.out _ HX24.out HY24.out) (fun hHeld2 => ?_)
                clear hK K hHeld
                have hHeld := hHeld2
                clear hHeld2
                clear hbn
                try simp only [Act.put, List.setIfInBounds_toArray, List.set_cons_zero, List.set_cons_succ]
                refine wpAnyH_take (i := 13) (oi := ⟨some 58, _, _, _, _, _⟩) (v := ?_) rfl (by kernel_rfl) (by kernel_rfl) (by kernel_rfl) (fun _ _ _ h => h) (Or.inl ⟨by rfl, by (intro w hSw; (try dsimp only at hSw); go_simp; try with_reducible rfl)⟩) hHeld ?_
                try simp only [Act.put, List.setIfInBounds_toArray, List.set_cons_zero, List.set_cons_succ]
                refine wpAnyH_take (i := 14) (oi := ⟨some 2, _, _, _, _, _⟩) (v := ?_) rfl (by kernel_rfl) (by kernel_rfl) (by kernel_rfl) (fun _ _ _ h => h) (Or.inl ⟨by rfl, by (intro w hSw; (try dsimp only at hSw); go_simp; try with_reducible rfl)⟩) hHeld ?_
                try simp only [Act.put, List.setIfInBounds_toArray, List.set_cons_zero, List.set_cons_succ]
                refine wpAnyH_done (by kernel_rfl) ?_ _
                simp only [Exit.then]
                apply_assumption
                try go_wp2
                go_ret
                exact ⟨rfl, HB24.out⟩
              · exact AllReadyH.nil
            · exact AllReadyH.nil
          · exact AllReadyH.nil
        · exact AllReadyH.nil
    · have EA : ((a.err : Int) == 0) = false := by rw [beq_eq_false_iff_ne]; omega
      have EA' : ((a.err : Int) != 0) = true := by rw [bne_iff_ne]; omega
      clear ea
      generalize a.err = E1 at *
      generalize a.out = s1 at *
      go_wp2_with fail
      go_ret
      exact ⟨rfl, HB5.out⟩
end Go.Proofs.YtjfjliobencppaaGreatDoor.Cf
