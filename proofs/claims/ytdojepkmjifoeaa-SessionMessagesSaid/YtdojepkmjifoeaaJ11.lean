/- Values of the codec: trees, and how they lie in memory.; codec.sound.; codec.sound of values that may be: the values within. -/
import Derived.Test.YtdojepkmjifoeaaJ10
set_option linter.unusedVariables false
set_option linter.unusedSimpArgs false
namespace Go.Proofs.Ytdojepkmjifoeaa
open Go.RowKit

/-- A value: its kind, its number, its text, the values within. -/
inductive Tr : Type where
  | mk (k : Int) (n : Nat) (s : ByteArray) (l : List Tr) : Tr
theorem Tr.ind {P : Tr → Prop} (h : ∀ k n s l, (∀ x ∈ l, P x) → P (.mk k n s l)) : ∀ t, P t
  | .mk k n s l => h k n s l (fun x _ => Tr.ind h x)
termination_by t => SizeOf.sizeOf t
decreasing_by
  have := List.sizeOf_lt_of_mem ‹x ∈ l›
  simp; omega

mutual
/-- A value as it lies in memory: its four cells. -/
def VIn (w : World) : Tr → Value → Value → Value → Value → Prop
  | .mk k n s l, c0, c1, c2, c3 => c0 = .int .i64 k ∧ c1 = .int .u64 (n : Int) ∧ n ≤ 18446744073709551615 ∧ c2 = .string s ∧ (s.size ≤ 1000000000 ∧ l.length ≤ 1000000) ∧ ∃ (o : Option Addr) (cap b off : Nat), c3 = .slice o l.length cap ∧ (0 < l.length → o = some ⟨b, off, none⟩ ∧ b < w.heap.size) ∧ VInL w b off l
def VInL (w : World) (b : Nat) : Nat → List Tr → Prop
  | _, [] => True
  | off, t :: ts => (∃ c0 c1 c2 c3, w.cell? ⟨b, off, none⟩ = some c0 ∧ w.cell? ⟨b, off + 1, none⟩ = some c1 ∧ w.cell? ⟨b, off + 2, none⟩ = some c2 ∧ w.cell? ⟨b, off + 3, none⟩ = some c3 ∧ VIn w t c0 c1 c2 c3) ∧ VInL w b (off + 4) ts
end
theorem VInL.at {w : World} {b : Nat} : ∀ {off : Nat} {l : List Tr} (i : Nat) (h : i < l.length), VInL w b off l → ∃ c0 c1 c2 c3, w.cell? ⟨b, off + i * 4, none⟩ = some c0 ∧ w.cell? ⟨b, off + i * 4 + 1, none⟩ = some c1 ∧ w.cell? ⟨b, off + i * 4 + 2, none⟩ = some c2 ∧ w.cell? ⟨b, off + i * 4 + 3, none⟩ = some c3 ∧ VIn w l[i] c0 c1 c2 c3
  | off, t :: ts, 0, _, h => by
    unfold VInL at h
    simpa using h.1
  | off, t :: ts, i + 1, hi, h => by
    unfold VInL at h
    have := VInL.at i (by simpa using hi) h.2
    rw [show off + (i + 1) * 4 = off + 4 + i * 4 by omega]
    simpa using this
theorem VInL.of {w : World} {b : Nat} : ∀ {off : Nat} {l : List Tr}, (∀ (i : Nat) (h : i < l.length), ∃ c0 c1 c2 c3, w.cell? ⟨b, off + i * 4, none⟩ = some c0 ∧ w.cell? ⟨b, off + i * 4 + 1, none⟩ = some c1 ∧ w.cell? ⟨b, off + i * 4 + 2, none⟩ = some c2 ∧ w.cell? ⟨b, off + i * 4 + 3, none⟩ = some c3 ∧ VIn w l[i] c0 c1 c2 c3) → VInL w b off l
  | off, [], _ => by unfold VInL; trivial
  | off, t :: ts, h => by
    unfold VInL
    have h0 := h 0 (by simp)
    rw [Nat.zero_mul, Nat.add_zero] at h0
    refine ⟨h0, VInL.of (fun i hi => ?_)⟩
    have := h (i + 1) (by simpa using hi)
    rw [show off + (i + 1) * 4 = off + 4 + i * 4 by omega] at this
    simpa using this
theorem VIn.cells {w : World} : ∀ {t : Tr} {c0 c1 c2 c3 : Value}, VIn w t c0 c1 c2 c3 → ∃ (k : Int) (n : Nat) (s : ByteArray) (o : Option Addr) (len cap : Nat), c0 = .int .i64 k ∧ c1 = .int .u64 (n : Int) ∧ c2 = .string s ∧ c3 = .slice o len cap
  | .mk k n s l, _, _, _, _, h => by
    unfold VIn at h
    obtain ⟨h0, h1, _, h2, _, o, cap, _, _, h3, _⟩ := h
    exact ⟨k, n, s, o, l.length, cap, h0, h1, h2, h3⟩
/-- What lies there goes on lying there. -/
theorem VIn.later {w w' : World} (hb : Below w.heap.size w w') : ∀ (t : Tr) {c0 c1 c2 c3 : Value}, VIn w t c0 c1 c2 c3 → VIn w' t c0 c1 c2 c3 := by
  refine Tr.ind ?_
  intro k n s l ih c0 c1 c2 c3 h
  unfold VIn at h ⊢
  obtain ⟨h0, h1, hn, h2, hz, o, cap, b, off, h3, ho, hl⟩ := h
  refine ⟨h0, h1, hn, h2, hz, o, cap, b, off, h3, fun hp => ⟨(ho hp).1, Nat.lt_of_lt_of_le (ho hp).2 hb.size⟩, VInL.of (fun i hi => ?_)⟩
  obtain ⟨d0, d1, d2, d3, e0, e1, e2, e3, hv⟩ := hl.at i hi
  have hbl := (ho (by omega)).2
  exact ⟨d0, d1, d2, d3, (hb.cell (p := ⟨b, _, none⟩) hbl).trans e0, (hb.cell (p := ⟨b, _, none⟩) hbl).trans e1, (hb.cell (p := ⟨b, _, none⟩) hbl).trans e2, (hb.cell (p := ⟨b, _, none⟩) hbl).trans e3, ih _ (List.getElem_mem hi) hv⟩

mutual
def sndT : Tr → Bool
  | .mk k n s l => decide (1 ≤ k ∧ k ≤ 3) && (decide (k = 1) || decide (n = 0)) && (decide (k = 2) || decide (s.size = 0)) && (decide (k = 3) || decide (l.length = 0)) && sndL l
def sndL : List Tr → Bool
  | [] => true
  | t :: ts => sndT t && sndL ts
end
theorem sndL_all : ∀ l : List Tr, sndL l = l.all sndT
  | [] => by unfold sndL; rfl
  | t :: ts => by unfold sndL; rw [List.all_cons, sndL_all ts]
mutual
def deepT : Tr → Nat
  | .mk k _ _ l => if k = 3 then deepL l + 1 else 0
def deepL : List Tr → Nat
  | [] => 0
  | t :: ts => max (deepT t) (deepL ts)
end
end Go.Proofs.Ytdojepkmjifoeaa

namespace Go.Proofs.Ytdojepkmjifoeaa
open Go.RowKit

theorem four_new (w : World) (a b c d : Value) (t : Nat) : (w.alloc (.cells #[a, b, c, d] t)).cell? ⟨w.heap.size, 0, none⟩ = some a ∧ (w.alloc (.cells #[a, b, c, d] t)).cell? ⟨w.heap.size, 1, none⟩ = some b ∧ (w.alloc (.cells #[a, b, c, d] t)).cell? ⟨w.heap.size, 2, none⟩ = some c ∧ (w.alloc (.cells #[a, b, c, d] t)).cell? ⟨w.heap.size, 3, none⟩ = some d :=
  ⟨cell_new w _ t 0, cell_new w _ t 1, cell_new w _ t 2, cell_new w _ t 3⟩
theorem four_below {w w' : World} {B g : Nat} {a b c d : Value} (h : w.cell? ⟨g, 0, none⟩ = some a ∧ w.cell? ⟨g, 1, none⟩ = some b ∧ w.cell? ⟨g, 2, none⟩ = some c ∧ w.cell? ⟨g, 3, none⟩ = some d) (hb : Below B w w') (hg : g < B) : w'.cell? ⟨g, 0, none⟩ = some a ∧ w'.cell? ⟨g, 1, none⟩ = some b ∧ w'.cell? ⟨g, 2, none⟩ = some c ∧ w'.cell? ⟨g, 3, none⟩ = some d :=
  ⟨(hb.cell (p := ⟨g, 0, none⟩) hg).trans h.1, (hb.cell (p := ⟨g, 1, none⟩) hg).trans h.2.1, (hb.cell (p := ⟨g, 2, none⟩) hg).trans h.2.2.1, (hb.cell (p := ⟨g, 3, none⟩) hg).trans h.2.2.2⟩

theorem store27 (w : World) (k : Int) (n : Nat) (s : ByteArray) (o : Option Addr) (l c : Nat) :
    (storeVar 69 ⟨w.heap.size, 0, none⟩ (.agg #[.int .i64 k, .int .u64 (n : Int), .string s, .slice o l c])).run Try.prog (w.alloc (.cells #[.int .i64 0, .int .u64 0, .string ⟨#[]⟩, .slice none 0 0] 69)) = .ok () (w.alloc (.cells #[.int .i64 k, .int .u64 (n : Int), .string s, .slice o l c] 69)) := by
  simp [go_sem]
theorem store37 (w : World) (k : Int) (n : Nat) (s : ByteArray) (o : Option Addr) (l c : Nat) :
    (storeVar 62 ⟨w.heap.size, 0, none⟩ (.agg #[.int .i64 k, .int .u64 (n : Int), .string s, .slice o l c])).run Try.prog (w.alloc (.cells #[.int .i64 0, .int .u64 0, .string ⟨#[]⟩, .slice none 0 0] 62)) = .ok () (w.alloc (.cells #[.int .i64 k, .int .u64 (n : Int), .string s, .slice o l c] 62)) := by
  simp [go_sem]

theorem sound_kind (k : Int) (n : Int) (s : ByteArray) (o : Option Addr) (m cap : Nat) (hk : k < 1 ∨ 3 < k) (w : World) :
    Calls Try.prog 62 #[.agg #[.int .i64 k, .int .u64 n, .string s, .slice o m cap]] w fun e w' => e = .returned (.bool false) ∧ Below w.heap.size w w' := by
  obtain ⟨c0, c1, c2, c3⟩ := four_new w (.int .i64 k) (.int .u64 n) (.string s) (.slice o m cap) 69
  rcases hk with hk | hk
  · go_enter Try.func62, Try.ntmps62
    go_wp2
    go_ret
    exact ⟨rfl, (Below.refl _ _).alloc (Nat.le_refl _) _⟩
  · have hk2 : ¬ k < 1 := by omega
    go_enter Try.func62, Try.ntmps62
    go_wp2
    go_ret
    exact ⟨rfl, (Below.refl _ _).alloc (Nat.le_refl _) _⟩

theorem sound_one_text (n : Nat) (s : ByteArray) (o : Option Addr) (m cap : Nat) (hs : 1 ≤ s.size) (w : World) :
    Calls Try.prog 62 #[.agg #[.int .i64 1, .int .u64 (n : Int), .string s, .slice o m cap]] w fun e w' => e = .returned (.bool false) ∧ Below w.heap.size w w' := by
  obtain ⟨c0, c1, c2, c3⟩ := four_new w (.int .i64 1) (.int .u64 (n : Int)) (.string s) (.slice o m cap) 69
  have hs1 := empty_no s (by omega)
  have hs2 : (!s.toList.isEmpty) = true := by rw [hs1]; rfl
  go_enter Try.func62, Try.ntmps62
  go_wp2
  go_ret
  exact ⟨rfl, (Below.refl _ _).alloc (Nat.le_refl _) _⟩

theorem sound_one_list (n : Nat) (s : ByteArray) (o : Option Addr) (m cap : Nat) (hs : s.size = 0) (hm : 0 < m) (w : World) :
    Calls Try.prog 62 #[.agg #[.int .i64 1, .int .u64 (n : Int), .string s, .slice o m cap]] w fun e w' => e = .returned (.bool false) ∧ Below w.heap.size w w' := by
  obtain ⟨c0, c1, c2, c3⟩ := four_new w (.int .i64 1) (.int .u64 (n : Int)) (.string s) (.slice o m cap) 69
  have hs1 := empty_yes s hs
  have hs2 : (!s.toList.isEmpty) = false := by rw [hs1]; rfl
  have hm1 : (m : Int) > 0 := by omega
  go_enter Try.func62, Try.ntmps62
  go_wp2
  go_ret
  exact ⟨rfl, (Below.refl _ _).alloc (Nat.le_refl _) _⟩

theorem sound_two_num (n : Nat) (s : ByteArray) (o : Option Addr) (m cap : Nat) (hn : n ≠ 0) (w : World) :
    Calls Try.prog 62 #[.agg #[.int .i64 2, .int .u64 (n : Int), .string s, .slice o m cap]] w fun e w' => e = .returned (.bool false) ∧ Below w.heap.size w w' := by
  obtain ⟨c0, c1, c2, c3⟩ := four_new w (.int .i64 2) (.int .u64 (n : Int)) (.string s) (.slice o m cap) 69
  have hn1 : ((n : Int) != 0) = true := by rw [bne_iff_ne]; omega
  go_enter Try.func62, Try.ntmps62
  go_wp2
  go_ret
  exact ⟨rfl, (Below.refl _ _).alloc (Nat.le_refl _) _⟩

theorem sound_two_list (n : Nat) (s : ByteArray) (o : Option Addr) (m cap : Nat) (hn : n = 0) (hm : 0 < m) (w : World) :
    Calls Try.prog 62 #[.agg #[.int .i64 2, .int .u64 (n : Int), .string s, .slice o m cap]] w fun e w' => e = .returned (.bool false) ∧ Below w.heap.size w w' := by
  obtain ⟨c0, c1, c2, c3⟩ := four_new w (.int .i64 2) (.int .u64 (n : Int)) (.string s) (.slice o m cap) 69
  have hn1 : ((n : Int) != 0) = false := by rw [hn]; rfl
  have hm1 : (m : Int) > 0 := by omega
  go_enter Try.func62, Try.ntmps62
  go_wp2
  go_ret
  exact ⟨rfl, (Below.refl _ _).alloc (Nat.le_refl _) _⟩

theorem sound_three_num (n : Nat) (s : ByteArray) (o : Option Addr) (m cap : Nat) (hn : n ≠ 0) (w : World) :
    Calls Try.prog 62 #[.agg #[.int .i64 3, .int .u64 (n : Int), .string s, .slice o m cap]] w fun e w' => e = .returned (.bool false) ∧ Below w.heap.size w w' := by
  obtain ⟨c0, c1, c2, c3⟩ := four_new w (.int .i64 3) (.int .u64 (n : Int)) (.string s) (.slice o m cap) 69
  have hn1 : ((n : Int) != 0) = true := by rw [bne_iff_ne]; omega
  go_enter Try.func62, Try.ntmps62
  go_wp2
  go_ret
  exact ⟨rfl, (Below.refl _ _).alloc (Nat.le_refl _) _⟩

theorem sound_three_text (n : Nat) (s : ByteArray) (o : Option Addr) (m cap : Nat) (hn : n = 0) (hs : 1 ≤ s.size) (w : World) :
    Calls Try.prog 62 #[.agg #[.int .i64 3, .int .u64 (n : Int), .string s, .slice o m cap]] w fun e w' => e = .returned (.bool false) ∧ Below w.heap.size w w' := by
  obtain ⟨c0, c1, c2, c3⟩ := four_new w (.int .i64 3) (.int .u64 (n : Int)) (.string s) (.slice o m cap) 69
  have hn1 : ((n : Int) != 0) = false := by rw [hn]; rfl
  have hs1 := empty_no s (by omega)
  have hs2 : (!s.toList.isEmpty) = true := by rw [hs1]; rfl
  go_enter Try.func62, Try.ntmps62
  go_wp2
  go_ret
  exact ⟨rfl, (Below.refl _ _).alloc (Nat.le_refl _) _⟩
end Go.Proofs.Ytdojepkmjifoeaa

namespace Go.Proofs.Ytdojepkmjifoeaa
open Go.RowKit

set_option maxHeartbeats 1000000 in
theorem sound_loop1 (n : Nat) (s : ByteArray) (l : List Tr) (o : Option Addr) (cap b off : Nat) (hs : s.size = 0) (hm0 : l.length = 0) (hlen : l.length ≤ 1000000)
    (ih : ∀ x ∈ l, ∀ (c0 c1 c2 c3 : Value) (w : World), VIn w x c0 c1 c2 c3 → Calls Try.prog 62 #[.agg #[c0, c1, c2, c3]] w fun e w' => e = .returned (.bool (sndT x)) ∧ Below w.heap.size w w')
    (w : World) (ho : 0 < l.length → o = some ⟨b, off, none⟩ ∧ b < w.heap.size) (hl : VInL w b off l) :
    Calls Try.prog 62 #[.agg #[.int .i64 1, .int .u64 (n : Int), .string s, .slice o l.length cap]] w fun e w' => e = .returned (.bool (l.all sndT)) ∧ Below w.heap.size w w' := by
  obtain ⟨m, hm⟩ : ∃ m, m = l.length := ⟨_, rfl⟩
  rw [← hm] at hlen ⊢
  have HM := Lib.hid hm
  have HO := Lib.hid ho
  have HL := Lib.hid hl
  have IH := Lib.hid ih
  have hs1 := empty_yes s hs
  have hs2 : (!s.toList.isEmpty) = false := by rw [hs1]; rfl
  have hm1 : ¬ (m : Int) > 0 := by omega
  obtain ⟨w0, hw0⟩ : ∃ w0, w0 = w.alloc (.cells #[.int .i64 1, .int .u64 (n : Int), .string s, .slice o m cap] 69) := ⟨_, rfl⟩
  have HB := Lib.hid (show Below w.heap.size w w0 by rw [hw0]; exact alloc_below _ _)
  obtain ⟨c0, c1, c2, c3⟩ := four_new w (.int .i64 1) (.int .u64 (n : Int)) (.string s) (.slice o m cap) 69
  rw [← hw0] at c0 c1 c2 c3
  have HW := Lib.hid hw0
  clear hw0 ho hl ih hm
  go_enter Try.func62, Try.ntmps62
  go_wp2_with fail
  rw [← HW.out]
  clear HW
  go_wp2_with fail
  clear c0 c1 c2 c3
  go_loopw [45] (fun iv wr => ∃ j : Nat, j ≤ m ∧ iv = .int .i64 (j : Int) ∧ Hid (∀ i (h : i < l.length), i < j → sndT l[i] = true) ∧ Hid (Below w.heap.size w wr)) (fun iv _ => m - (intOf iv).toNat)
  case atStart => exact ⟨0, Nat.zero_le _, rfl, Lib.hid (fun i _ h => absurd h (by omega)), HB⟩
  case round =>
    obtain ⟨j, hj, rfl, hS, hB⟩ := hrel
    by_cases hjm : j < m
    · exact absurd hjm (by have := HM.out; omega)
    · have HALL : Hid (l.all sndT = true) := Lib.hid (by
        rw [List.all_eq_true]
        intro x hx
        obtain ⟨i, hi, rfl⟩ := List.getElem_of_mem hx
        exact hS.out i hi (by have := HM.out; omega))
      go_wp2
      go_ret
      exact ⟨by rw [HALL.out]; rfl, hB.out⟩

set_option maxHeartbeats 1000000 in
theorem sound_loop2 (s : ByteArray) (l : List Tr) (o : Option Addr) (cap b off : Nat) (hm0 : l.length = 0) (hlen : l.length ≤ 1000000)
    (ih : ∀ x ∈ l, ∀ (c0 c1 c2 c3 : Value) (w : World), VIn w x c0 c1 c2 c3 → Calls Try.prog 62 #[.agg #[c0, c1, c2, c3]] w fun e w' => e = .returned (.bool (sndT x)) ∧ Below w.heap.size w w')
    (w : World) (ho : 0 < l.length → o = some ⟨b, off, none⟩ ∧ b < w.heap.size) (hl : VInL w b off l) :
    Calls Try.prog 62 #[.agg #[.int .i64 2, .int .u64 0, .string s, .slice o l.length cap]] w fun e w' => e = .returned (.bool (l.all sndT)) ∧ Below w.heap.size w w' := by
  obtain ⟨m, hm⟩ : ∃ m, m = l.length := ⟨_, rfl⟩
  rw [← hm] at hlen ⊢
  have HM := Lib.hid hm
  have HO := Lib.hid ho
  have HL := Lib.hid hl
  have IH := Lib.hid ih
  have hm1 : ¬ (m : Int) > 0 := by omega
  obtain ⟨w0, hw0⟩ : ∃ w0, w0 = w.alloc (.cells #[.int .i64 2, .int .u64 0, .string s, .slice o m cap] 69) := ⟨_, rfl⟩
  have HB := Lib.hid (show Below w.heap.size w w0 by rw [hw0]; exact alloc_below _ _)
  obtain ⟨c0, c1, c2, c3⟩ := four_new w (.int .i64 2) (.int .u64 0) (.string s) (.slice o m cap) 69
  rw [← hw0] at c0 c1 c2 c3
  have HW := Lib.hid hw0
  clear hw0 ho hl ih hm
  go_enter Try.func62, Try.ntmps62
  go_wp2_with fail
  rw [← HW.out]
  clear HW
  go_wp2_with fail
  clear c0 c1 c2 c3
  go_loopw [45] (fun iv wr => ∃ j : Nat, j ≤ m ∧ iv = .int .i64 (j : Int) ∧ Hid (∀ i (h : i < l.length), i < j → sndT l[i] = true) ∧ Hid (Below w.heap.size w wr)) (fun iv _ => m - (intOf iv).toNat)
  case atStart => exact ⟨0, Nat.zero_le _, rfl, Lib.hid (fun i _ h => absurd h (by omega)), HB⟩
  case round =>
    obtain ⟨j, hj, rfl, hS, hB⟩ := hrel
    by_cases hjm : j < m
    · exact absurd hjm (by have := HM.out; omega)
    · have HALL : Hid (l.all sndT = true) := Lib.hid (by
        rw [List.all_eq_true]
        intro x hx
        obtain ⟨i, hi, rfl⟩ := List.getElem_of_mem hx
        exact hS.out i hi (by have := HM.out; omega))
      go_wp2
      go_ret
      exact ⟨by rw [HALL.out]; rfl, hB.out⟩

set_option maxHeartbeats 1000000 in
theorem sound_loop3 (s : ByteArray) (l : List Tr) (o : Option Addr) (cap b off : Nat) (hs : s.size = 0) (hlen : l.length ≤ 1000000)
    (ih : ∀ x ∈ l, ∀ (c0 c1 c2 c3 : Value) (w : World), VIn w x c0 c1 c2 c3 → Calls Try.prog 62 #[.agg #[c0, c1, c2, c3]] w fun e w' => e = .returned (.bool (sndT x)) ∧ Below w.heap.size w w')
    (w : World) (ho : 0 < l.length → o = some ⟨b, off, none⟩ ∧ b < w.heap.size) (hl : VInL w b off l) :
    Calls Try.prog 62 #[.agg #[.int .i64 3, .int .u64 0, .string s, .slice o l.length cap]] w fun e w' => e = .returned (.bool (l.all sndT)) ∧ Below w.heap.size w w' := by
  obtain ⟨m, hm⟩ : ∃ m, m = l.length := ⟨_, rfl⟩
  rw [← hm] at hlen ⊢
  have HM := Lib.hid hm
  have HO := Lib.hid ho
  have HL := Lib.hid hl
  have IH := Lib.hid ih
  have hs1 := empty_yes s hs
  have hs2 : (!s.toList.isEmpty) = false := by rw [hs1]; rfl
  obtain ⟨w0, hw0⟩ : ∃ w0, w0 = w.alloc (.cells #[.int .i64 3, .int .u64 0, .string s, .slice o m cap] 69) := ⟨_, rfl⟩
  have HB := Lib.hid (show Below w.heap.size w w0 by rw [hw0]; exact alloc_below _ _)
  obtain ⟨c0, c1, c2, c3⟩ := four_new w (.int .i64 3) (.int .u64 0) (.string s) (.slice o m cap) 69
  rw [← hw0] at c0 c1 c2 c3
  have HW := Lib.hid hw0
  clear hw0 ho hl ih hm
  go_enter Try.func62, Try.ntmps62
  go_wp2_with fail
  rw [← HW.out]
  clear HW
  go_wp2_with fail
  clear c0 c1 c2 c3
  go_loopw [45] (fun iv wr => ∃ j : Nat, j ≤ m ∧ iv = .int .i64 (j : Int) ∧ Hid (∀ i (h : i < l.length), i < j → sndT l[i] = true) ∧ Hid (Below w.heap.size w wr)) (fun iv _ => m - (intOf iv).toNat)
  case atStart => exact ⟨0, Nat.zero_le _, rfl, Lib.hid (fun i _ h => absurd h (by omega)), HB⟩
  case round =>
    obtain ⟨j, hj, rfl, hS, hB⟩ := hrel
    by_cases hjm : j < m
    · have hjl : j < l.length := by rw [← HM.out]; exact hjm
      obtain ⟨ho', hb'⟩ := HO.out (by omega)
      subst ho'
      obtain ⟨d0, d1, d2, d3, e0, e1, e2, e3, hv⟩ := HL.out.at j hjl
      obtain ⟨k', n', s', o', len', cap', rfl, rfl, rfl, rfl⟩ := hv.cells
      have f0 := (hB.out.cell (p := ⟨b, _, none⟩) hb').trans e0
      have f1 := (hB.out.cell (p := ⟨b, _, none⟩) hb').trans e1
      have f2 := (hB.out.cell (p := ⟨b, _, none⟩) hb').trans e2
      have f3 := (hB.out.cell (p := ⟨b, _, none⟩) hb').trans e3
      have hst := store27 wr k' n' s' o' len' cap'
      have HV := Lib.hid hv
      clear e0 e1 e2 e3 hv
      go_wp2_with fail
      obtain ⟨wa, hwa⟩ : ∃ wa, wa = wr.alloc (.cells #[.int .i64 k', .int .u64 (n' : Int), .string s', .slice o' len' cap'] 69) := ⟨_, rfl⟩
      rw [← hwa]
      have HBA := Lib.hid (hB.out.trans ((show Below wr.heap.size wr wa by rw [hwa]; exact alloc_below _ _).mono hB.out.size))
      clear hwa f0 f1 f2 f3 hst
      refine (IH.out l[j] (List.getElem_mem hjl) _ _ _ _ wa (HV.out.later HBA.out)).mono ?_
      rintro r w5 ⟨rfl, hb5⟩
      have HB5 := Lib.hid (HBA.out.trans (hb5.mono HBA.out.size))
      clear hb5
      have HSJ := Lib.hid (show sndT l[j] = sndT l[j] from rfl)
      by_cases hs : sndT l[j] = true
      · have HSS := Lib.hid hs
        rw [hs]
        clear hs HSJ
        go_wp2
        go_roundw
        case rel =>
          refine ⟨j + 1, by omega, by go_num, Lib.hid (fun i h hi => ?_), HB5⟩
          by_cases hij : i = j
          · subst hij; exact HSS.out
          · exact hS.out i h (by omega)
        case measure => simp [intOf]; omega
      · have hs' : sndT l[j] = false := by simpa using hs
        have HALL : Hid (l.all sndT = false) := Lib.hid (by
          rw [List.all_eq_false]
          exact ⟨l[j], List.getElem_mem hjl, by rw [hs']; simp⟩)
        rw [hs']
        clear hs hs' HSJ
        go_wp2
        go_ret
        exact ⟨by rw [HALL.out]; rfl, HB5.out⟩
    · have HALL : Hid (l.all sndT = true) := Lib.hid (by
        rw [List.all_eq_true]
        intro x hx
        obtain ⟨i, hi, rfl⟩ := List.getElem_of_mem hx
        exact hS.out i hi (by have := HM.out; omega))
      go_wp2
      go_ret
      exact ⟨by rw [HALL.out]; rfl, hB.out⟩

theorem sound_any : ∀ (t : Tr) (c0 c1 c2 c3 : Value) (w : World), VIn w t c0 c1 c2 c3 → Calls Try.prog 62 #[.agg #[c0, c1, c2, c3]] w fun e w' => e = .returned (.bool (sndT t)) ∧ Below w.heap.size w w' := by
  refine Tr.ind ?_
  intro k n s l ih c0 c1 c2 c3 w h
  unfold VIn at h
  obtain ⟨rfl, rfl, hn, rfl, ⟨_, hlen⟩, o, cap, b, off, rfl, ho, hl⟩ := h
  unfold sndT
  rw [sndL_all]
  by_cases hk : k < 1 ∨ 3 < k
  · rw [show decide (1 ≤ k ∧ k ≤ 3) = false by simp; omega]
    simpa using sound_kind k n s o l.length cap hk w
  · rw [show decide (1 ≤ k ∧ k ≤ 3) = true by simp; omega]
    rcases (show k = 1 ∨ k = 2 ∨ k = 3 by omega) with rfl | rfl | rfl
    · by_cases hs : s.size = 0
      · by_cases hm : l.length = 0
        · simpa [hs, hm] using sound_loop1 n s l o cap b off hs hm hlen ih w ho hl
        · simpa [hs, hm] using sound_one_list n s o l.length cap hs (by omega) w
      · simpa [hs] using sound_one_text n s o l.length cap (by omega) w
    · by_cases hn0 : n = 0
      · by_cases hm : l.length = 0
        · simpa [hn0, hm] using sound_loop2 s l o cap b off hm hlen ih w ho hl
        · simpa [hn0, hm] using sound_two_list n s o l.length cap hn0 (by omega) w
      · simpa [hn0] using sound_two_num n s o l.length cap hn0 w
    · by_cases hn0 : n = 0
      · by_cases hs : s.size = 0
        · simpa [hn0, hs] using sound_loop3 s l o cap b off hs hlen ih w ho hl
        · simpa [hn0, hs] using sound_three_text n s o l.length cap hn0 (by omega) w
      · simpa [hn0] using sound_three_num n s o l.length cap hn0 w
end Go.Proofs.Ytdojepkmjifoeaa
