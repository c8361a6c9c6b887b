/- codec.sound of values that may be: the values within.; codec.Deep and the document's: how deep lists stand in one another. -/
import Derived.Test.YtjfjliobencppaaGreatDoorJ02
set_option linter.unusedVariables false
set_option linter.unusedSimpArgs false
namespace Go.Proofs.YtjfjliobencppaaGreatDoor
open Go.RowKit

set_option maxHeartbeats 1000000 in
theorem sound_loop1 (n : Nat) (s : ByteArray) (l : List Tr) (o : Option Addr) (cap b off : Nat) (hs : s.size = 0) (hm0 : l.length = 0) (hlen : l.length ≤ 1000000)
    (ih : ∀ x ∈ l, ∀ (c0 c1 c2 c3 : Value) (w : World), VIn w x c0 c1 c2 c3 → Calls Tryz.prog 56 #[.agg #[c0, c1, c2, c3]] w fun e w' => e = .returned (.bool (sndT x)) ∧ Below w.heap.size w w')
    (w : World) (ho : 0 < l.length → o = some ⟨b, off, none⟩ ∧ b < w.heap.size) (hl : VInL w b off l) :
    Calls Tryz.prog 56 #[.agg #[.int .i64 1, .int .u64 (n : Int), .string s, .slice o l.length cap]] w fun e w' => e = .returned (.bool (l.all sndT)) ∧ Below w.heap.size w w' := by
  obtain ⟨m, hm⟩ : ∃ m, m = l.length := ⟨_, rfl⟩
  rw [← hm] at hlen ⊢
  have HM := Lib.hid hm
  have HO := Lib.hid ho
  have HL := Lib.hid hl
  have IH := Lib.hid ih
  have hs1 := empty_yes s hs
  have hs2 : (!s.toList.isEmpty) = false := by rw [hs1]; rfl
  have hm1 : ¬ (m : Int) > 0 := by omega
  obtain ⟨w0, hw0⟩ : ∃ w0, w0 = w.alloc (.cells #[.int .i64 1, .int .u64 (n : Int), .string s, .slice o m cap] 69) := ⟨_, rfl⟩
  have HB := Lib.hid (show Below w.heap.size w w0 by rw [hw0]; exact alloc_below _ _)
  obtain ⟨c0, c1, c2, c3⟩ := four_new w (.int .i64 1) (.int .u64 (n : Int)) (.string s) (.slice o m cap) 69
  rw [← hw0] at c0 c1 c2 c3
  have HW := Lib.hid hw0
  clear hw0 ho hl ih hm
  go_enter Tryz.func56, Tryz.ntmps56
  go_wp2_with fail
  rw [← HW.out]
  clear HW
  go_wp2_with fail
  clear c0 c1 c2 c3
  go_loopw [45] (fun iv wr => ∃ j : Nat, j ≤ m ∧ iv = .int .i64 (j : Int) ∧ Hid (∀ i (h : i < l.length), i < j → sndT l[i] = true) ∧ Hid (Below w.heap.size w wr)) (fun iv _ => m - (intOf iv).toNat)
  case atStart => exact ⟨0, Nat.zero_le _, rfl, Lib.hid (fun i _ h => absurd h (by omega)), HB⟩
  case round =>
    obtain ⟨j, hj, rfl, hS, hB⟩ := hrel
    by_cases hjm : j < m
    · exact absurd hjm (by have := HM.out; omega)
    · have HALL : Hid (l.all sndT = true) := Lib.hid (by
        rw [List.all_eq_true]
        intro x hx
        obtain ⟨i, hi, rfl⟩ := List.getElem_of_mem hx
        exact hS.out i hi (by have := HM.out; omega))
      go_wp2
      go_ret
      exact ⟨by rw [HALL.out]; rfl, hB.out⟩

set_option maxHeartbeats 1000000 in
theorem sound_loop2 (s : ByteArray) (l : List Tr) (o : Option Addr) (cap b off : Nat) (hm0 : l.length = 0) (hlen : l.length ≤ 1000000)
    (ih : ∀ x ∈ l, ∀ (c0 c1 c2 c3 : Value) (w : World), VIn w x c0 c1 c2 c3 → Calls Tryz.prog 56 #[.agg #[c0, c1, c2, c3]] w fun e w' => e = .returned (.bool (sndT x)) ∧ Below w.heap.size w w')
    (w : World) (ho : 0 < l.length → o = some ⟨b, off, none⟩ ∧ b < w.heap.size) (hl : VInL w b off l) :
    Calls Tryz.prog 56 #[.agg #[.int .i64 2, .int .u64 0, .string s, .slice o l.length cap]] w fun e w' => e = .returned (.bool (l.all sndT)) ∧ Below w.heap.size w w' := by
  obtain ⟨m, hm⟩ : ∃ m, m = l.length := ⟨_, rfl⟩
  rw [← hm] at hlen ⊢
  have HM := Lib.hid hm
  have HO := Lib.hid ho
  have HL := Lib.hid hl
  have IH := Lib.hid ih
  have hm1 : ¬ (m : Int) > 0 := by omega
  obtain ⟨w0, hw0⟩ : ∃ w0, w0 = w.alloc (.cells #[.int .i64 2, .int .u64 0, .string s, .slice o m cap] 69) := ⟨_, rfl⟩
  have HB := Lib.hid (show Below w.heap.size w w0 by rw [hw0]; exact alloc_below _ _)
  obtain ⟨c0, c1, c2, c3⟩ := four_new w (.int .i64 2) (.int .u64 0) (.string s) (.slice o m cap) 69
  rw [← hw0] at c0 c1 c2 c3
  have HW := Lib.hid hw0
  clear hw0 ho hl ih hm
  go_enter Tryz.func56, Tryz.ntmps56
  go_wp2_with fail
  rw [← HW.out]
  clear HW
  go_wp2_with fail
  clear c0 c1 c2 c3
  go_loopw [45] (fun iv wr => ∃ j : Nat, j ≤ m ∧ iv = .int .i64 (j : Int) ∧ Hid (∀ i (h : i < l.length), i < j → sndT l[i] = true) ∧ Hid (Below w.heap.size w wr)) (fun iv _ => m - (intOf iv).toNat)
  case atStart => exact ⟨0, Nat.zero_le _, rfl, Lib.hid (fun i _ h => absurd h (by omega)), HB⟩
  case round =>
    obtain ⟨j, hj, rfl, hS, hB⟩ := hrel
    by_cases hjm : j < m
    · exact absurd hjm (by have := HM.out; omega)
    · have HALL : Hid (l.all sndT = true) := Lib.hid (by
        rw [List.all_eq_true]
        intro x hx
        obtain ⟨i, hi, rfl⟩ := List.getElem_of_mem hx
        exact hS.out i hi (by have := HM.out; omega))
      go_wp2
      go_ret
      exact ⟨by rw [HALL.out]; rfl, hB.out⟩

set_option maxHeartbeats 1000000 in
theorem sound_loop3 (s : ByteArray) (l : List Tr) (o : Option Addr) (cap b off : Nat) (hs : s.size = 0) (hlen : l.length ≤ 1000000)
    (ih : ∀ x ∈ l, ∀ (c0 c1 c2 c3 : Value) (w : World), VIn w x c0 c1 c2 c3 → Calls Tryz.prog 56 #[.agg #[c0, c1, c2, c3]] w fun e w' => e = .returned (.bool (sndT x)) ∧ Below w.heap.size w w')
    (w : World) (ho : 0 < l.length → o = some ⟨b, off, none⟩ ∧ b < w.heap.size) (hl : VInL w b off l) :
    Calls Tryz.prog 56 #[.agg #[.int .i64 3, .int .u64 0, .string s, .slice o l.length cap]] w fun e w' => e = .returned (.bool (l.all sndT)) ∧ Below w.heap.size w w' := by
  obtain ⟨m, hm⟩ : ∃ m, m = l.length := ⟨_, rfl⟩
  rw [← hm] at hlen ⊢
  have HM := Lib.hid hm
  have HO := Lib.hid ho
  have HL := Lib.hid hl
  have IH := Lib.hid ih
  have hs1 := empty_yes s hs
  have hs2 : (!s.toList.isEmpty) = false := by rw [hs1]; rfl
  obtain ⟨w0, hw0⟩ : ∃ w0, w0 = w.alloc (.cells #[.int .i64 3, .int .u64 0, .string s, .slice o m cap] 69) := ⟨_, rfl⟩
  have HB := Lib.hid (show Below w.heap.size w w0 by rw [hw0]; exact alloc_below _ _)
  obtain ⟨c0, c1, c2, c3⟩ := four_new w (.int .i64 3) (.int .u64 0) (.string s) (.slice o m cap) 69
  rw [← hw0] at c0 c1 c2 c3
  have HW := Lib.hid hw0
  clear hw0 ho hl ih hm
  go_enter Tryz.func56, Tryz.ntmps56
  go_wp2_with fail
  rw [← HW.out]
  clear HW
  go_wp2_with fail
  clear c0 c1 c2 c3
  go_loopw [45] (fun iv wr => ∃ j : Nat, j ≤ m ∧ iv = .int .i64 (j : Int) ∧ Hid (∀ i (h : i < l.length), i < j → sndT l[i] = true) ∧ Hid (Below w.heap.size w wr)) (fun iv _ => m - (intOf iv).toNat)
  case atStart => exact ⟨0, Nat.zero_le _, rfl, Lib.hid (fun i _ h => absurd h (by omega)), HB⟩
  case round =>
    obtain ⟨j, hj, rfl, hS, hB⟩ := hrel
    by_cases hjm : j < m
    · have hjl : j < l.length := by rw [← HM.out]; exact hjm
      obtain ⟨ho', hb'⟩ := HO.out (by omega)
      subst ho'
      obtain ⟨d0, d1, d2, d3, e0, e1, e2, e3, hv⟩ := HL.out.at j hjl
      obtain ⟨k', n', s', o', len', cap', rfl, rfl, rfl, rfl⟩ := hv.cells
      have f0 := (hB.out.cell (p := ⟨b, _, none⟩) hb').trans e0
      have f1 := (hB.out.cell (p := ⟨b, _, none⟩) hb').trans e1
      have f2 := (hB.out.cell (p := ⟨b, _, none⟩) hb').trans e2
      have f3 := (hB.out.cell (p := ⟨b, _, none⟩) hb').trans e3
      have hst := store27 wr k' n' s' o' len' cap'
      have HV := Lib.hid hv
      clear e0 e1 e2 e3 hv
      go_wp2_with fail
      obtain ⟨wa, hwa⟩ : ∃ wa, wa = wr.alloc (.cells #[.int .i64 k', .int .u64 (n' : Int), .string s', .slice o' len' cap'] 69) := ⟨_, rfl⟩
      rw [← hwa]
      have HBA := Lib.hid (hB.out.trans ((show Below wr.heap.size wr wa by rw [hwa]; exact alloc_below _ _).mono hB.out.size))
      clear hwa f0 f1 f2 f3 hst
      refine (IH.out l[j] (List.getElem_mem hjl) _ _ _ _ wa (HV.out.later HBA.out)).mono ?_
      rintro r w5 ⟨rfl, hb5⟩
      have HB5 := Lib.hid (HBA.out.trans (hb5.mono HBA.out.size))
      clear hb5
      have HSJ := Lib.hid (show sndT l[j] = sndT l[j] from rfl)
      by_cases hs : sndT l[j] = true
      · have HSS := Lib.hid hs
        rw [hs]
        clear hs HSJ
        go_wp2
        go_roundw
        case rel =>
          refine ⟨j + 1, by omega, by go_num, Lib.hid (fun i h hi => ?_), HB5⟩
          by_cases hij : i = j
          · subst hij; exact HSS.out
          · exact hS.out i h (by omega)
        case measure => simp [intOf]; omega
      · have hs' : sndT l[j] = false := by simpa using hs
        have HALL : Hid (l.all sndT = false) := Lib.hid (by
          rw [List.all_eq_false]
          exact ⟨l[j], List.getElem_mem hjl, by rw [hs']; simp⟩)
        rw [hs']
        clear hs hs' HSJ
        go_wp2
        go_ret
        exact ⟨by rw [HALL.out]; rfl, HB5.out⟩
    · have HALL : Hid (l.all sndT = true) := Lib.hid (by
        rw [List.all_eq_true]
        intro x hx
        obtain ⟨i, hi, rfl⟩ := List.getElem_of_mem hx
        exact hS.out i hi (by have := HM.out; omega))
      go_wp2
      go_ret
      exact ⟨by rw [HALL.out]; rfl, hB.out⟩

theorem sound_any : ∀ (t : Tr) (c0 c1 c2 c3 : Value) (w : World), VIn w t c0 c1 c2 c3 → Calls Tryz.prog 56 #[.agg #[c0, c1, c2, c3]] w fun e w' => e = .returned (.bool (sndT t)) ∧ Below w.heap.size w w' := by
  refine Tr.ind ?_
  intro k n s l ih c0 c1 c2 c3 w h
  unfold VIn at h
  obtain ⟨rfl, rfl, hn, rfl, ⟨_, hlen⟩, o, cap, b, off, rfl, ho, hl⟩ := h
  unfold sndT
  rw [sndL_all]
  by_cases hk : k < 1 ∨ 3 < k
  · rw [show decide (1 ≤ k ∧ k ≤ 3) = false by simp; omega]
    simpa using sound_kind k n s o l.length cap hk w
  · rw [show decide (1 ≤ k ∧ k ≤ 3) = true by simp; omega]
    rcases (show k = 1 ∨ k = 2 ∨ k = 3 by omega) with rfl | rfl | rfl
    · by_cases hs : s.size = 0
      · by_cases hm : l.length = 0
        · simpa [hs, hm] using sound_loop1 n s l o cap b off hs hm hlen ih w ho hl
        · simpa [hs, hm] using sound_one_list n s o l.length cap hs (by omega) w
      · simpa [hs] using sound_one_text n s o l.length cap (by omega) w
    · by_cases hn0 : n = 0
      · by_cases hm : l.length = 0
        · simpa [hn0, hm] using sound_loop2 s l o cap b off hm hlen ih w ho hl
        · simpa [hn0, hm] using sound_two_list n s o l.length cap hn0 (by omega) w
      · simpa [hn0] using sound_two_num n s o l.length cap hn0 w
    · by_cases hn0 : n = 0
      · by_cases hs : s.size = 0
        · simpa [hn0, hs] using sound_loop3 s l o cap b off hs hlen ih w ho hl
        · simpa [hn0, hs] using sound_three_text n s o l.length cap hn0 (by omega) w
      · simpa [hn0] using sound_three_num n s o l.length cap hn0 w
end Go.Proofs.YtjfjliobencppaaGreatDoor

namespace Go.Proofs.YtjfjliobencppaaGreatDoor
open Go.RowKit

theorem deepL_le : ∀ (l : List Tr) (N : Nat), deepL l ≤ N → ∀ x ∈ l, deepT x ≤ N
  | [], _, _, x, hx => by simp at hx
  | t :: ts, N, h, x, hx => by
    unfold deepL at h
    rcases List.mem_cons.1 hx with rfl | hx
    · omega
    · exact deepL_le ts N (by omega) x hx
/-- How deep the first j of them are. -/
def deepP (l : List Tr) (j : Nat) : Nat := (l.take j).foldl (fun a t => max a (deepT t)) 0
theorem deepP_succ (l : List Tr) (j : Nat) (h : j < l.length) : deepP l (j + 1) = max (deepP l j) (deepT l[j]) := by
  unfold deepP
  rw [List.take_succ_eq_append_getElem h, List.foldl_append]
  rfl
theorem deep_fold : ∀ (l : List Tr) (a : Nat), l.foldl (fun a t => max a (deepT t)) a = max a (deepL l)
  | [], a => by unfold deepL; simp
  | t :: ts, a => by
    rw [List.foldl_cons, deep_fold ts]
    conv => rhs; unfold deepL
    omega
theorem deepP_all (l : List Tr) : deepP l l.length = deepL l := by
  unfold deepP
  rw [List.take_length, deep_fold]; omega
theorem deepP_le (l : List Tr) (j : Nat) : deepP l j ≤ deepL l := by
  rw [← deepP_all]
  have gen : ∀ (l : List Tr) (j a b : Nat), a ≤ b → (l.take j).foldl (fun a t => max a (deepT t)) a ≤ l.foldl (fun a t => max a (deepT t)) b := by
    intro l
    induction l with
    | nil => intro j a b hab; simpa using hab
    | cons t ts ih =>
      intro j a b hab
      match j with
      | 0 => rw [List.take_zero, List.foldl_nil, deep_fold]; omega
      | j + 1 => rw [List.take_succ_cons, List.foldl_cons, List.foldl_cons]; exact ih j _ _ (by omega)
  unfold deepP
  rw [List.take_length]
  exact gen l j 0 0 (Nat.le_refl _)

theorem deep_no (k : Int) (n : Int) (s : ByteArray) (o : Option Addr) (m cap : Nat) (hk : k ≠ 3) (w : World) :
    Calls Tryz.prog 57 #[.agg #[.int .i64 k, .int .u64 n, .string s, .slice o m cap]] w fun e w' => e = .returned (.int .i64 0) ∧ Below w.heap.size w w' := by
  obtain ⟨c0, c1, c2, c3⟩ := four_new w (.int .i64 k) (.int .u64 n) (.string s) (.slice o m cap) 69
  have hk2 : (k != 3) = true := by rw [bne_iff_ne]; exact hk
  go_enter Tryz.func57, Tryz.ntmps57
  go_wp2
  go_ret
  exact ⟨rfl, (Below.refl _ _).alloc (Nat.le_refl _) _⟩

set_option maxHeartbeats 1000000 in
theorem deep_yes (n : Nat) (s : ByteArray) (l : List Tr) (o : Option Addr) (cap b off : Nat) (hlen : l.length ≤ 1000000) (hd : deepL l ≤ 1000000000)
    (ih : ∀ x ∈ l, ∀ (c0 c1 c2 c3 : Value) (w : World), VIn w x c0 c1 c2 c3 → Calls Tryz.prog 57 #[.agg #[c0, c1, c2, c3]] w fun e w' => e = .returned (.int .i64 (deepT x : Nat)) ∧ Below w.heap.size w w')
    (w : World) (ho : 0 < l.length → o = some ⟨b, off, none⟩ ∧ b < w.heap.size) (hl : VInL w b off l) :
    Calls Tryz.prog 57 #[.agg #[.int .i64 3, .int .u64 (n : Int), .string s, .slice o l.length cap]] w fun e w' => e = .returned (.int .i64 (deepL l + 1 : Nat)) ∧ Below w.heap.size w w' := by
  obtain ⟨m, hm⟩ : ∃ m, m = l.length := ⟨_, rfl⟩
  have HDA := Lib.hid (deepP_all l)
  have HDL := Lib.hid (fun j => Nat.le_trans (deepP_le l j) hd)
  obtain ⟨D, hD⟩ : ∃ D, D = deepL l := ⟨_, rfl⟩
  rw [← hD] at HDA hd ⊢
  rw [← hm] at hlen ⊢
  have HM := Lib.hid hm
  have HO := Lib.hid ho
  have HL := Lib.hid hl
  have IH := Lib.hid ih
  have HDD := Lib.hid hD
  obtain ⟨w0, hw0⟩ : ∃ w0, w0 = w.alloc (.cells #[.int .i64 3, .int .u64 (n : Int), .string s, .slice o m cap] 69) := ⟨_, rfl⟩
  have HB := Lib.hid (show Below w.heap.size w w0 by rw [hw0]; exact alloc_below _ _)
  have HW := Lib.hid hw0
  clear hw0 ho hl ih hm hD
  go_enter Tryz.func57, Tryz.ntmps57
  go_wp2_with fail
  rw [← HW.out]
  clear HW
  go_loopw [3, 12] (fun mv iv wr => ∃ j : Nat, j ≤ m ∧ iv = .int .i64 (j : Int) ∧ mv = .int .i64 (deepP l j : Nat) ∧ Hid (Below w.heap.size w wr)) (fun _ iv _ => m - (intOf iv).toNat)
  case atStart => exact ⟨0, Nat.zero_le _, rfl, rfl, HB⟩
  case round =>
    obtain ⟨j, hj, rfl, rfl, hB⟩ := hrel
    by_cases hjm : j < m
    · have hjl : j < l.length := by rw [← HM.out]; exact hjm
      obtain ⟨ho', hb'⟩ := HO.out (by omega)
      subst ho'
      obtain ⟨d0, d1, d2, d3, e0, e1, e2, e3, hv⟩ := HL.out.at j hjl
      obtain ⟨k', n', s', o', len', cap', rfl, rfl, rfl, rfl⟩ := hv.cells
      have f0 := (hB.out.cell (p := ⟨b, _, none⟩) hb').trans e0
      have f1 := (hB.out.cell (p := ⟨b, _, none⟩) hb').trans e1
      have f2 := (hB.out.cell (p := ⟨b, _, none⟩) hb').trans e2
      have f3 := (hB.out.cell (p := ⟨b, _, none⟩) hb').trans e3
      have hst := store27 wr k' n' s' o' len' cap'
      have HV := Lib.hid hv
      have HSU := Lib.hid (deepP_succ l j hjl)
      obtain ⟨p, hp⟩ : ∃ p, p = deepP l j := ⟨_, rfl⟩
      rw [← hp]
      have HP := Lib.hid hp
      clear e0 e1 e2 e3 hv hp
      go_wp2_with fail
      obtain ⟨wa, hwa⟩ : ∃ wa, wa = wr.alloc (.cells #[.int .i64 k', .int .u64 (n' : Int), .string s', .slice o' len' cap'] 69) := ⟨_, rfl⟩
      rw [← hwa]
      have HBA := Lib.hid (hB.out.trans ((show Below wr.heap.size wr wa by rw [hwa]; exact alloc_below _ _).mono hB.out.size))
      clear hwa f0 f1 f2 f3 hst
      refine (IH.out l[j] (List.getElem_mem hjl) _ _ _ _ wa (HV.out.later HBA.out)).mono ?_
      rintro r w5 ⟨rfl, hb5⟩
      have HB5 := Lib.hid (HBA.out.trans (hb5.mono HBA.out.size))
      clear hb5
      obtain ⟨q, hq⟩ : ∃ q, q = deepT l[j] := ⟨_, rfl⟩
      rw [← hq]
      have HQ := Lib.hid hq
      clear hq
      go_wp2
      go_roundw
      case rel => exact ⟨j + 1, by omega, by go_num, by rw [HSU.out, ← HP.out, ← HQ.out]; congr 1; omega, HB5⟩
      case measure => simp [intOf]; omega
    · have ejm : j = l.length := by rw [← HM.out]; omega
      have hpd : deepP l j = D := by rw [ejm]; exact HDA.out
      rw [hpd]
      clear hpd ejm
      go_wp2
      go_ret
      exact ⟨by congr 2 <;> omega, hB.out⟩
theorem deep_any : ∀ (t : Tr) (c0 c1 c2 c3 : Value) (w : World), deepT t ≤ 1000000000 → VIn w t c0 c1 c2 c3 → Calls Tryz.prog 57 #[.agg #[c0, c1, c2, c3]] w fun e w' => e = .returned (.int .i64 (deepT t : Nat)) ∧ Below w.heap.size w w' := by
  refine Tr.ind ?_
  intro k n s l ih c0 c1 c2 c3 w hd h
  unfold VIn at h
  obtain ⟨rfl, rfl, hn, rfl, ⟨_, hlen⟩, o, cap, b, off, rfl, ho, hl⟩ := h
  unfold deepT at hd ⊢
  by_cases hk : k = 3
  · subst hk
    rw [if_pos rfl] at hd ⊢
    exact deep_yes n s l o cap b off hlen (by omega) (fun x hx c0 c1 c2 c3 w hv => ih x hx c0 c1 c2 c3 w (deepL_le l _ (by omega) x hx) hv) w ho hl
  · rw [if_neg hk]
    exact deep_no k n s o l.length cap hk w
end Go.Proofs.YtjfjliobencppaaGreatDoor
