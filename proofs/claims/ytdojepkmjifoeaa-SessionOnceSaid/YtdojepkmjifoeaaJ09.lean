/- The document's Next of a frame: the errors ahead of the sum.; Walk of the law FrameBytes: frames that may not be.; Values of the codec: trees, and how they lie in memory. -/
import Derived.Test.YtdojepkmjifoeaaJ07
import Derived.Test.YtdojepkmjifoeaaJ08
set_option linter.unusedVariables false
set_option linter.unusedSimpArgs false
namespace Go.Proofs.Ytdojepkmjifoeaa
open Go.RowKit

/-- What the document's Next answers. -/
def rnV (k e : Nat) (b : ByteArray) (n c : Nat) : Value := .tuple #[.agg #[.int .i64 (k : Int), .int .u64 (e : Int), .string b], .int .i64 (n : Int), .int .i64 (c : Int)]

theorem take3 (s : ByteArray) (h : 3 ≤ s.size) : s.data.toList.take 3 = [s[0], s[1], s[2]] := by
  have hl : s.data.toList.length = s.size := by simp
  have e0 : s.data.toList[0]'(by omega) = s[0] := rfl
  have e1 : s.data.toList[1]'(by omega) = s[1] := rfl
  have e2 : s.data.toList[2]'(by omega) = s[2] := rfl
  rw [List.take_succ_eq_append_getElem (by omega), List.take_succ_eq_append_getElem (by omega), List.take_succ_eq_append_getElem (by omega), e0, e1, e2]
  rfl
theorem pre_bytes (s : ByteArray) (h : 3 ≤ s.size) : preS s = true ↔ (s[0].toNat = 79 ∧ s[1].toNat = 70 ∧ s[2].toNat = 1) := by
  unfold preS
  rw [pre_iff, take3 s h]
  simp only [List.cons.injEq, and_true, ← UInt8.toNat_inj]
  exact Iff.rfl

theorem rnext_short (s : ByteArray) (hs : s.size < 20) (w : World) :
    Calls Try.prog 28 #[.string s] w fun r w' => r = .returned (rnV 0 0 ⟨#[]⟩ 0 3) ∧ Below w.heap.size w w' := by
  go_enter Try.func28, Try.ntmps28
  go_wp2
  exact bodyPost_ret (v := rnV 0 0 ⟨#[]⟩ 0 3) (by simp [results, Try.results28, go_sem, rnV]) rfl ⟨rfl, (Below.refl _ _).alloc (Nat.le_refl _) _⟩
theorem rnext_form (s : ByteArray) (hs : 20 ≤ s.size) (hp : preS s = false) (w : World) :
    Calls Try.prog 28 #[.string s] w fun r w' => r = .returned (rnV 0 0 ⟨#[]⟩ 0 4) ∧ Below w.heap.size w w' := by
  have h20 : ¬ s.size < 20 := by omega
  have h0 : 0 < s.size := by omega
  have h1 : 1 < s.size := by omega
  have h2 : 2 < s.size := by omega
  have hnot : ¬ (s[0].toNat = 79 ∧ s[1].toNat = 70 ∧ s[2].toNat = 1) := by
    rw [← pre_bytes s (by omega), hp]; simp
  clear hp
  by_cases b0 : s[0].toNat = 79
  · have q0 : ((s[0].toNat : Int) != 79) = false := by rw [b0]; rfl
    by_cases b1 : s[1].toNat = 70
    · have q1 : ((s[1].toNat : Int) != 70) = false := by rw [b1]; rfl
      have q2 : ((s[2].toNat : Int) != 1) = true := by
        have h3 : ¬ s[2].toNat = 1 := fun h => hnot ⟨b0, b1, h⟩
        simp; omega
      clear hnot b0 b1
      go_enter Try.func28, Try.ntmps28
      go_wp2
      exact bodyPost_ret (v := rnV 0 0 ⟨#[]⟩ 0 4) (by simp [results, Try.results28, go_sem, rnV]) rfl ⟨rfl, (Below.refl _ _).alloc (Nat.le_refl _) _⟩
    · have q1 : ((s[1].toNat : Int) != 70) = true := by simp; omega
      clear hnot b0 b1
      go_enter Try.func28, Try.ntmps28
      go_wp2
      exact bodyPost_ret (v := rnV 0 0 ⟨#[]⟩ 0 4) (by simp [results, Try.results28, go_sem, rnV]) rfl ⟨rfl, (Below.refl _ _).alloc (Nat.le_refl _) _⟩
  · have q0 : ((s[0].toNat : Int) != 79) = true := by simp; omega
    clear hnot b0
    go_enter Try.func28, Try.ntmps28
    go_wp2
    exact bodyPost_ret (v := rnV 0 0 ⟨#[]⟩ 0 4) (by simp [results, Try.results28, go_sem, rnV]) rfl ⟨rfl, (Below.refl _ _).alloc (Nat.le_refl _) _⟩

theorem rnum_call (s : ByteArray) (hs : 20 ≤ s.size) (n : Nat) (hn : lenN s = n) (w : World) : Calls Try.prog 51 #[.string (s.extract 12 16)] w fun e w' => e = .returned (.int .u64 (n : Int)) ∧ w = w' := by
  subst hn
  exact rget_ok (s.extract 12 16) (by rw [ByteArray.size_extract]; omega) w
theorem rep_call (s : ByteArray) (hs : 20 ≤ s.size) (n : Nat) (hn : epS s = n) (w : World) : Calls Try.prog 51 #[.string (s.extract 4 12)] w fun e w' => e = .returned (.int .u64 (n : Int)) ∧ w = w' := by
  subst hn
  exact rget_ok (s.extract 4 12) (by rw [ByteArray.size_extract]; omega) w

theorem rnext_kind (s : ByteArray) (hs : 20 ≤ s.size) (hp : preS s = true) (hk : kindS s = 0) (w : World) :
    Calls Try.prog 28 #[.string s] w fun r w' => r = .returned (rnV 0 0 ⟨#[]⟩ 0 10) ∧ Below w.heap.size w w' := by
  have h20 : ¬ s.size < 20 := by omega
  have h0 : 0 < s.size := by omega
  have h1 : 1 < s.size := by omega
  have h2 : 2 < s.size := by omega
  have h3 : 3 < s.size := by omega
  obtain ⟨b0, b1, b2⟩ := (pre_bytes s (by omega)).1 hp
  have q0 : ((s[0].toNat : Int) != 79) = false := by rw [b0]; rfl
  have q1 : ((s[1].toNat : Int) != 70) = false := by rw [b1]; rfl
  have q2 : ((s[2].toNat : Int) != 1) = false := by rw [b2]; rfl
  have hz : ((s[3].toNat : Int) == 0) = true := by rw [← kind_at s h3, hk]; rfl
  clear hk hp b0 b1 b2
  go_enter Try.func28, Try.ntmps28
  go_wp2
  exact bodyPost_ret (v := rnV 0 0 ⟨#[]⟩ 0 10) (by simp [results, Try.results28, go_sem, rnV]) rfl ⟨rfl, (Below.refl _ _).alloc (Nat.le_refl _) _⟩
theorem rnext_long (s : ByteArray) (hs : 20 ≤ s.size) (hp : preS s = true) (hk : kindS s ≠ 0) (hn : 8192 < lenN s) (w : World) :
    Calls Try.prog 28 #[.string s] w fun r w' => r = .returned (rnV 0 0 ⟨#[]⟩ 0 5) ∧ Below w.heap.size w w' := by
  have h20 : ¬ s.size < 20 := by omega
  have h0 : 0 < s.size := by omega
  have h1 : 1 < s.size := by omega
  have h2 : 2 < s.size := by omega
  have h3 : 3 < s.size := by omega
  obtain ⟨b0, b1, b2⟩ := (pre_bytes s (by omega)).1 hp
  have q0 : ((s[0].toNat : Int) != 79) = false := by rw [b0]; rfl
  have q1 : ((s[1].toNat : Int) != 70) = false := by rw [b1]; rfl
  have q2 : ((s[2].toNat : Int) != 1) = false := by rw [b2]; rfl
  have hz : ((s[3].toNat : Int) == 0) = false := by rw [← kind_at s h3, beq_eq_false_iff_ne]; omega
  have K2 := Lib.hid (rnum_call s hs _ rfl)
  generalize lenN s = n at *
  clear hk hp b0 b1 b2
  go_enter Try.func28, Try.ntmps28
  go_wp2_with fail
  refine (K2.out _).mono ?_
  rintro r w1 ⟨rfl, rfl⟩
  go_wp2
  exact bodyPost_ret (v := rnV 0 0 ⟨#[]⟩ 0 5) (by simp [results, Try.results28, go_sem, rnV]) rfl ⟨rfl, (Below.refl _ _).alloc (Nat.le_refl _) _⟩
theorem rnext_cut (s : ByteArray) (hs : 20 ≤ s.size) (hp : preS s = true) (hk : kindS s ≠ 0) (hn : lenN s ≤ 8192) (hc : s.size < lenN s + 20) (w : World) :
    Calls Try.prog 28 #[.string s] w fun r w' => r = .returned (rnV 0 0 ⟨#[]⟩ 0 3) ∧ Below w.heap.size w w' := by
  have h20 : ¬ s.size < 20 := by omega
  have h0 : 0 < s.size := by omega
  have h1 : 1 < s.size := by omega
  have h2 : 2 < s.size := by omega
  have h3 : 3 < s.size := by omega
  obtain ⟨b0, b1, b2⟩ := (pre_bytes s (by omega)).1 hp
  have q0 : ((s[0].toNat : Int) != 79) = false := by rw [b0]; rfl
  have q1 : ((s[1].toNat : Int) != 70) = false := by rw [b1]; rfl
  have q2 : ((s[2].toNat : Int) != 1) = false := by rw [b2]; rfl
  have hz : ((s[3].toNat : Int) == 0) = false := by rw [← kind_at s h3, beq_eq_false_iff_ne]; omega
  have K2 := Lib.hid (rnum_call s hs _ rfl)
  generalize lenN s = n at *
  have hw : IntKind.i64.wrap (n : Int) = (n : Int) := IntWalk.i64_in _ (by omega)
  have hlt : (s.size : Int) < 20 + (n : Int) := by omega
  clear hk hp b0 b1 b2
  go_enter Try.func28, Try.ntmps28
  go_wp2_with fail
  refine (K2.out _).mono ?_
  rintro r w1 ⟨rfl, rfl⟩
  go_wp2
  exact bodyPost_ret (v := rnV 0 0 ⟨#[]⟩ 0 3) (by simp [results, Try.results28, go_sem, rnV]) rfl ⟨rfl, (Below.refl _ _).alloc (Nat.le_refl _) _⟩
end Go.Proofs.Ytdojepkmjifoeaa

namespace Go.Proofs.Ytdojepkmjifoeaa
open Go.RowKit

/-- Three cells of a block. -/
theorem three_below {w w' : World} {B g : Nat} {a b c : Value} (h : w.cell? ⟨g, 0, none⟩ = some a ∧ w.cell? ⟨g, 1, none⟩ = some b ∧ w.cell? ⟨g, 2, none⟩ = some c) (hb : Below B w w') (hg : g < B) : w'.cell? ⟨g, 0, none⟩ = some a ∧ w'.cell? ⟨g, 1, none⟩ = some b ∧ w'.cell? ⟨g, 2, none⟩ = some c :=
  ⟨(hb.cell (p := ⟨g, 0, none⟩) hg).trans h.1, (hb.cell (p := ⟨g, 1, none⟩) hg).trans h.2.1, (hb.cell (p := ⟨g, 2, none⟩) hg).trans h.2.2⟩
theorem three_new (w : World) (a b c : Value) (t : Nat) : (w.alloc (.cells #[a, b, c] t)).cell? ⟨w.heap.size, 0, none⟩ = some a ∧ (w.alloc (.cells #[a, b, c] t)).cell? ⟨w.heap.size, 1, none⟩ = some b ∧ (w.alloc (.cells #[a, b, c] t)).cell? ⟨w.heap.size, 2, none⟩ = some c :=
  ⟨cell_new w _ t 0, cell_new w _ t 1, cell_new w _ t 2⟩
theorem alloc_below (w : World) (o : Obj) : Below w.heap.size w (w.alloc o) := (Below.refl _ _).alloc (Nat.le_refl _) _
theorem alloc_lt (w : World) (o : Obj) : w.heap.size < (w.alloc o).heap.size := by simp

end Go.Proofs.Ytdojepkmjifoeaa

namespace Go.Proofs.Ytdojepkmjifoeaa
open Go.RowKit

/-- A value: its kind, its number, its text, the values within. -/
inductive Tr : Type where
  | mk (k : Int) (n : Nat) (s : ByteArray) (l : List Tr) : Tr
theorem Tr.ind {P : Tr → Prop} (h : ∀ k n s l, (∀ x ∈ l, P x) → P (.mk k n s l)) : ∀ t, P t
  | .mk k n s l => h k n s l (fun x _ => Tr.ind h x)
termination_by t => SizeOf.sizeOf t
decreasing_by
  have := List.sizeOf_lt_of_mem ‹x ∈ l›
  simp; omega

mutual
/-- A value as it lies in memory: its four cells. -/
def VIn (w : World) : Tr → Value → Value → Value → Value → Prop
  | .mk k n s l, c0, c1, c2, c3 => c0 = .int .i64 k ∧ c1 = .int .u64 (n : Int) ∧ n ≤ 18446744073709551615 ∧ c2 = .string s ∧ (s.size ≤ 1000000000 ∧ l.length ≤ 1000000) ∧ ∃ (o : Option Addr) (cap b off : Nat), c3 = .slice o l.length cap ∧ (0 < l.length → o = some ⟨b, off, none⟩ ∧ b < w.heap.size) ∧ VInL w b off l
def VInL (w : World) (b : Nat) : Nat → List Tr → Prop
  | _, [] => True
  | off, t :: ts => (∃ c0 c1 c2 c3, w.cell? ⟨b, off, none⟩ = some c0 ∧ w.cell? ⟨b, off + 1, none⟩ = some c1 ∧ w.cell? ⟨b, off + 2, none⟩ = some c2 ∧ w.cell? ⟨b, off + 3, none⟩ = some c3 ∧ VIn w t c0 c1 c2 c3) ∧ VInL w b (off + 4) ts
end
theorem VInL.at {w : World} {b : Nat} : ∀ {off : Nat} {l : List Tr} (i : Nat) (h : i < l.length), VInL w b off l → ∃ c0 c1 c2 c3, w.cell? ⟨b, off + i * 4, none⟩ = some c0 ∧ w.cell? ⟨b, off + i * 4 + 1, none⟩ = some c1 ∧ w.cell? ⟨b, off + i * 4 + 2, none⟩ = some c2 ∧ w.cell? ⟨b, off + i * 4 + 3, none⟩ = some c3 ∧ VIn w l[i] c0 c1 c2 c3
  | off, t :: ts, 0, _, h => by
    unfold VInL at h
    simpa using h.1
  | off, t :: ts, i + 1, hi, h => by
    unfold VInL at h
    have := VInL.at i (by simpa using hi) h.2
    rw [show off + (i + 1) * 4 = off + 4 + i * 4 by omega]
    simpa using this
theorem VInL.of {w : World} {b : Nat} : ∀ {off : Nat} {l : List Tr}, (∀ (i : Nat) (h : i < l.length), ∃ c0 c1 c2 c3, w.cell? ⟨b, off + i * 4, none⟩ = some c0 ∧ w.cell? ⟨b, off + i * 4 + 1, none⟩ = some c1 ∧ w.cell? ⟨b, off + i * 4 + 2, none⟩ = some c2 ∧ w.cell? ⟨b, off + i * 4 + 3, none⟩ = some c3 ∧ VIn w l[i] c0 c1 c2 c3) → VInL w b off l
  | off, [], _ => by unfold VInL; trivial
  | off, t :: ts, h => by
    unfold VInL
    have h0 := h 0 (by simp)
    rw [Nat.zero_mul, Nat.add_zero] at h0
    refine ⟨h0, VInL.of (fun i hi => ?_)⟩
    have := h (i + 1) (by simpa using hi)
    rw [show off + (i + 1) * 4 = off + 4 + i * 4 by omega] at this
    simpa using this
theorem VIn.cells {w : World} : ∀ {t : Tr} {c0 c1 c2 c3 : Value}, VIn w t c0 c1 c2 c3 → ∃ (k : Int) (n : Nat) (s : ByteArray) (o : Option Addr) (len cap : Nat), c0 = .int .i64 k ∧ c1 = .int .u64 (n : Int) ∧ c2 = .string s ∧ c3 = .slice o len cap
  | .mk k n s l, _, _, _, _, h => by
    unfold VIn at h
    obtain ⟨h0, h1, _, h2, _, o, cap, _, _, h3, _⟩ := h
    exact ⟨k, n, s, o, l.length, cap, h0, h1, h2, h3⟩
/-- What lies there goes on lying there. -/
theorem VIn.later {w w' : World} (hb : Below w.heap.size w w') : ∀ (t : Tr) {c0 c1 c2 c3 : Value}, VIn w t c0 c1 c2 c3 → VIn w' t c0 c1 c2 c3 := by
  refine Tr.ind ?_
  intro k n s l ih c0 c1 c2 c3 h
  unfold VIn at h ⊢
  obtain ⟨h0, h1, hn, h2, hz, o, cap, b, off, h3, ho, hl⟩ := h
  refine ⟨h0, h1, hn, h2, hz, o, cap, b, off, h3, fun hp => ⟨(ho hp).1, Nat.lt_of_lt_of_le (ho hp).2 hb.size⟩, VInL.of (fun i hi => ?_)⟩
  obtain ⟨d0, d1, d2, d3, e0, e1, e2, e3, hv⟩ := hl.at i hi
  have hbl := (ho (by omega)).2
  exact ⟨d0, d1, d2, d3, (hb.cell (p := ⟨b, _, none⟩) hbl).trans e0, (hb.cell (p := ⟨b, _, none⟩) hbl).trans e1, (hb.cell (p := ⟨b, _, none⟩) hbl).trans e2, (hb.cell (p := ⟨b, _, none⟩) hbl).trans e3, ih _ (List.getElem_mem hi) hv⟩

mutual
def sndT : Tr → Bool
  | .mk k n s l => decide (1 ≤ k ∧ k ≤ 3) && (decide (k = 1) || decide (n = 0)) && (decide (k = 2) || decide (s.size = 0)) && (decide (k = 3) || decide (l.length = 0)) && sndL l
def sndL : List Tr → Bool
  | [] => true
  | t :: ts => sndT t && sndL ts
end
theorem sndL_all : ∀ l : List Tr, sndL l = l.all sndT
  | [] => by unfold sndL; rfl
  | t :: ts => by unfold sndL; rw [List.all_cons, sndL_all ts]
mutual
def deepT : Tr → Nat
  | .mk k _ _ l => if k = 3 then deepL l + 1 else 0
def deepL : List Tr → Nat
  | [] => 0
  | t :: ts => max (deepT t) (deepL ts)
end
end Go.Proofs.Ytdojepkmjifoeaa
