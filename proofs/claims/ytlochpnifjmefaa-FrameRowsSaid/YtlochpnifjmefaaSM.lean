/- Frames, one behind the other, cut anywhere: plain facts. -/
import Derived.Test.YtlochpnifjmefaaAL
namespace Go.Proofs.Ytlochpnifjmefaa
open Go.RowKit

/-- A frame as it may be handed in. -/
abbrev Fri := Int × Nat × ByteArray
def gd (f : Fri) : Prop := 1 ≤ f.1 ∧ f.1 ≤ 255 ∧ f.2.2.size ≤ 8192 ∧ f.2.1 ≤ 18446744073709551615
def toF (f : Fri) : Frm := (f.1.toNat, f.2.1, f.2.2)
def frameOf (f : Fri) : List UInt8 := frameL f.1.toNat f.2.1 f.2.2.data.toList
def flatF (l : List Fri) : List UInt8 := l.flatMap frameOf
theorem frameOf_length (f : Fri) : (frameOf f).length = f.2.2.size + 20 := by unfold frameOf; rw [frameL_length]; simp
theorem flatF_cons (f : Fri) (l : List Fri) : flatF (f :: l) = frameOf f ++ flatF l := by simp [flatF]
theorem flatF_snoc (l : List Fri) (f : Fri) : flatF (l ++ [f]) = flatF l ++ frameOf f := by simp [flatF]

theorem read_of (f : Fri) (hf : gd f) (r : List UInt8) (s : ByteArray) (hs : s = str (frameOf f ++ r)) :
    codeS s = 0 ∧ (kindS s, epS s, bodyS s) = toF f ∧ restS s = str r := by
  obtain ⟨h1, h2, h3, h4⟩ := hf
  obtain ⟨c, q1, q2, q3, q4, _⟩ := read_frame f.1.toNat f.2.1 f.2.2 r (by omega) (by omega) h4 h3 s hs
  exact ⟨c, by rw [q1, q2, q3]; rfl, q4⟩
theorem runs_flat (fs : List Fri) (hg : ∀ f ∈ fs, gd f) (r : List UInt8) (l : List Frm) (t : ByteArray) (h : Runs (str r) l t) : Runs (str (flatF fs ++ r)) (fs.map toF ++ l) t := by
  induction fs with
  | nil => exact h
  | cons f fs ih =>
    have h2 := ih (fun x hx => hg x (by simp [hx]))
    obtain ⟨c, q, q4⟩ := read_of f (hg f (by simp)) (flatF fs ++ r) (str (flatF (f :: fs) ++ r)) (by rw [flatF_cons, List.append_assoc])
    rw [← q4] at h2
    have h3 := Runs.step _ _ _ c h2
    rw [q] at h3
    exact h3
theorem runs_none : Runs (str []) [] (str []) := Runs.stop _ (by
  intro h
  have := (code_ok h).1
  simp [str, ByteArray.size] at this)

theorem cut_code (f : Fri) (hf : gd f) (c : Nat) (hc : c < (frameOf f).length) : codeS (str ((frameOf f).take c)) ≠ 0 := by
  intro h
  obtain ⟨h20, _, _, _, _, h6, _⟩ := code_ok h
  obtain ⟨h1, h2, h3, h4⟩ := hf
  obtain ⟨_, _, _, _, _, q5⟩ := read_frame f.1.toNat f.2.1 f.2.2 [] (by omega) (by omega) h4 h3 (str (frameOf f)) (by simp [frameOf])
  rw [frameOf_length] at hc
  have hz : (str ((frameOf f).take c)).size = c := by rw [size_str, List.length_take, frameOf_length]; omega
  have e : lenN (str ((frameOf f).take c)) = lenN (str (frameOf f)) := by
    unfold lenN
    rw [ext_list, ext_list, data_str, data_str, List.drop_take, List.take_take, show min (16 - 12) (c - 12) = 16 - 12 by omega]
  rw [e, q5] at h6
  omega

/-- How many of the frames lie whole within the first k bytes. -/
def cntR : List Fri → Nat → Nat
  | [], _ => 0
  | f :: fs, k => if (frameOf f).length ≤ k then cntR fs (k - (frameOf f).length) + 1 else 0
theorem cntR_le (fs : List Fri) : ∀ k, cntR fs k ≤ fs.length := by
  induction fs with
  | nil => intro k; exact Nat.zero_le _
  | cons f fs ih =>
    intro k
    unfold cntR
    split
    · have := ih (k - (frameOf f).length); rw [List.length_cons]; omega
    · exact Nat.zero_le _
theorem runs_cut (fs : List Fri) : ∀ k, (∀ f ∈ fs, gd f) → ∃ t, Runs (str ((flatF fs).take k)) ((fs.take (cntR fs k)).map toF) t := by
  induction fs with
  | nil => intro k _; exact ⟨_, by simpa [flatF] using runs_none⟩
  | cons f fs ih =>
    intro k hg
    by_cases hk : (frameOf f).length ≤ k
    · obtain ⟨t, ht⟩ := ih (k - (frameOf f).length) (fun x hx => hg x (by simp [hx]))
      refine ⟨t, ?_⟩
      have e : (flatF (f :: fs)).take k = frameOf f ++ (flatF fs).take (k - (frameOf f).length) := by
        rw [flatF_cons, List.take_append, List.take_of_length_le hk]
      obtain ⟨c, q, q4⟩ := read_of f (hg f (by simp)) _ (str ((flatF (f :: fs)).take k)) (by rw [e])
      rw [← q4] at ht
      have h3 := Runs.step _ _ _ c ht
      rw [q] at h3
      unfold cntR
      rw [if_pos hk]
      exact h3
    · refine ⟨str ((flatF (f :: fs)).take k), ?_⟩
      unfold cntR
      rw [if_neg hk]
      refine Runs.stop _ ?_
      have e : (flatF (f :: fs)).take k = (frameOf f).take k := by
        rw [flatF_cons, List.take_append_of_le_length (by omega)]
      rw [e]
      exact cut_code f (hg f (by simp)) k (by omega)

/-- Where each ends. -/
def endsR : List Fri → Nat → List Nat
  | [], _ => []
  | f :: fs, o => (o + (frameOf f).length) :: endsR fs (o + (frameOf f).length)
theorem endsR_length (fs : List Fri) : ∀ o, (endsR fs o).length = fs.length := by
  induction fs with
  | nil => intro o; rfl
  | cons f fs ih => intro o; simp [endsR, ih]
theorem endsR_snoc (fs : List Fri) (f : Fri) : ∀ o, endsR (fs ++ [f]) o = endsR fs o ++ [o + (flatF (fs ++ [f])).length] := by
  induction fs with
  | nil => intro o; simp [endsR, flatF]
  | cons x fs ih =>
    intro o
    show _ :: endsR (fs ++ [f]) _ = _ :: _
    rw [ih, List.cons_append, flatF_cons, List.length_append, Nat.add_assoc]
    rfl
theorem endsR_ge (fs : List Fri) : ∀ o, ∀ x ∈ endsR fs o, o + 20 ≤ x := by
  induction fs with
  | nil => intro o x hx; simp [endsR] at hx
  | cons f fs ih =>
    intro o x hx
    have hl := frameOf_length f
    simp only [endsR, List.mem_cons] at hx
    rcases hx with rfl | hx
    · omega
    · have := ih _ x hx; omega
theorem cnt_ends (fs : List Fri) : ∀ o k, o ≤ k → (endsR fs o).countP (fun e => decide (e ≤ k)) = cntR fs (k - o) := by
  induction fs with
  | nil => intro o k _; rfl
  | cons f fs ih =>
    intro o k hk
    by_cases h : o + (frameOf f).length ≤ k
    · rw [endsR, List.countP_cons_of_pos (by simpa using h), ih _ k h, cntR, if_pos (by omega)]
      congr 2; omega
    · rw [endsR, List.countP_cons_of_neg (by simpa using h), cntR, if_neg (by omega)]
      rw [List.countP_eq_zero]
      intro x hx
      have := endsR_ge fs _ x hx
      simp; omega
theorem take_snoc' {α : Type} (l : List α) (j : Nat) (h : j < l.length) : l.take (j + 1) = l.take j ++ [l[j]] := by
  rw [List.take_succ_eq_append_getElem h]
theorem flat_le (l : List Fri) (h : ∀ f ∈ l, f.2.2.size ≤ 500) : (flatF l).length ≤ l.length * 520 := by
  induction l with
  | nil => simp [flatF]
  | cons f l ih =>
    have h1 := ih (fun x hx => h x (by simp [hx]))
    have h2 := h f (by simp)
    rw [flatF_cons, List.length_append, frameOf_length, List.length_cons]
    omega
end Go.Proofs.Ytlochpnifjmefaa
