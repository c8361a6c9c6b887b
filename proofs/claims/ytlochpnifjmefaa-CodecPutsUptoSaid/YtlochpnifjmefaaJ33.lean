/- frame.All: the frames that a text begins with, one behind the other.; Frames, one behind the other, cut anywhere: plain facts. -/
import Derived.Test.YtlochpnifjmefaaJ12
set_option linter.unusedVariables false
set_option linter.unusedSimpArgs false
namespace Go.Proofs.Ytlochpnifjmefaa
open Go.RowKit

/-- A frame: its kind, its epoch, its body. -/
abbrev Frm := Nat × Nat × ByteArray
def fcells (l : List Frm) : List Value := l.flatMap fun f => [.int .i64 (f.1 : Int), .int .u64 (f.2.1 : Int), .string f.2.2]
theorem fcells_snoc (l : List Frm) (k e : Nat) (b : ByteArray) : fcells l ++ [.int .i64 (k : Int), .int .u64 (e : Int), .string b] = fcells (l ++ [(k, e, b)]) := by
  simp [fcells]
theorem info51 : (Try.prog.info? 51).map (fun i => (i.zero, i.size, i.bytes)) = some (some (.agg #[.int .i64 0, .int .u64 0, .string ⟨#[]⟩]), 3, 32) := by kernel_rfl

theorem owns_later {w w' : World} {B e size n : Nat} {v : Value} {xs : List Value} (h : w.ownsRow B e size v n xs) (hb : Below w.heap.size w w') : w'.ownsRow B e size v n xs := by
  refine ⟨h.1, ?_⟩
  rcases h.2 with ⟨rfl, hn⟩ | ⟨g, cap, cur, rfl, hB, hg, rest⟩
  · exact .inl ⟨rfl, hn⟩
  · have hlt : g < w.heap.size := (Array.getElem?_eq_some_iff.1 hg).1
    obtain ⟨_, _, _, _, hk⟩ := hb
    exact .inr ⟨g, cap, cur, rfl, hB, (hk g hlt).trans hg, rest⟩

/-- 'l = append(l, f)' of one frame, l nil or the call's own. -/
theorem wpList_append_frame (W : World) {ops : Array Oper} {rest : List Oper} {o : Oper} {a : Act} {Q : Exit → Act → World → Prop} (hgd : o.guard = none) (s x : Operand)
    (ho : o.op = .call { callee := .builtin .append, args := #[s, x], argTypes := #[63, 63] })
    (B : Nat) (v : Value) (n : Nat) (l : List Frm) (hs : a.eval s = v) (hown : W.ownsRow B 51 3 v n (fcells l))
    (k e : Nat) (b : ByteArray) (g0 : Nat) (hg0 : g0 = W.heap.size) (hx : a.eval x = .slice (some ⟨g0, 0, none⟩) 1 1)
    (hk : n + 1 ≤ 1000000000000) (hB : B ≤ W.heap.size)
    (h : ∀ v' w', w'.ownsRow B 51 3 v' (n + 1) (fcells (l ++ [(k, e, b)])) → Below B W w' → wpList Try.prog ops Q rest (a.put o.dst v') w') :
    wpList Try.prog ops Q (o :: rest) a (W.alloc (.cells #[.int .i64 (k : Int), .int .u64 (e : Int), .string b] 51)) := by
  subst hg0
  obtain ⟨i0, hi, hz0, hz1, hz2⟩ := info_parts info51
  refine wpList_append_own _ hgd s x 63 ho B 51 i0 (.agg #[.int .i64 0, .int .u64 0, .string ⟨#[]⟩]) 3 32 Try.underlying63 hi hz0 hz1 hz2 rfl (by decide) v n (fcells l) hs (hown.alloc _) ⟨W.heap.size, 0, none⟩ 1 1 [.int .i64 (k : Int), .int .u64 (e : Int), .string b] hx rfl ?_ ?_ ?_ ?_ ?_ ?_
  · intro j u hj
    match j, hj with
    | 0, hj => simp at hj; subst hj; simp [Addr.add]
    | 1, hj => simp at hj; subst hj; simp [Addr.add]
    | 2, hj => simp at hj; subst hj; simp [Addr.add]
  · intro u hu; simp at hu; rcases hu with rfl | rfl | rfl <;> rfl
  · unfold maxLen; omega
  · omega
  · simp; omega
  · intro v' w' h1 h2 _
    rw [fcells_snoc l k e b] at h1
    refine h v' w' h1 ?_
    refine (((Below.refl B W).alloc hB _).grown h2 (by simp; omega) ?_)
    intro g hg
    exact (hown.lt g hg).1

/-- The frames of a text, one behind the other, and what is left. -/
inductive Runs : ByteArray → List Frm → ByteArray → Prop
  | stop (s : ByteArray) (h : codeS s ≠ 0) : Runs s [] s
  | step (s : ByteArray) (l : List Frm) (t : ByteArray) (h : codeS s = 0) (hr : Runs (restS s) l t) : Runs s ((kindS s, epS s, bodyS s) :: l) t
theorem Runs.det {s : ByteArray} {l : List Frm} {t : ByteArray} (h : Runs s l t) : ∀ {l' : List Frm} {t' : ByteArray}, Runs s l' t' → l = l' ∧ t = t' := by
  induction h with
  | stop s h =>
    intro l' t' h'
    cases h' with
    | stop _ _ => exact ⟨rfl, rfl⟩
    | step _ _ _ h2 _ => exact absurd h2 h
  | step s l t h hr ih =>
    intro l' t' h'
    cases h' with
    | stop _ h2 => exact absurd h h2
    | step _ l2 _ _ hr2 =>
      obtain ⟨e1, e2⟩ := ih hr2
      exact ⟨by rw [e1], e2⟩

def strSize : Value → Nat
  | .string b => b.size
  | _ => 0
/-- What All answers. -/
def AllP (s : ByteArray) (w : World) (e : Ending) (w' : World) : Prop :=
  ∃ (v : Value) (l : List Frm) (t : ByteArray), e = .returned (.tuple #[v, .string t]) ∧ Runs s l t ∧ l.length * 20 ≤ s.size ∧ w'.ownsRow w.heap.size 51 3 v l.length (fcells l) ∧ Below w.heap.size w w'
def AllI (s0 : ByteArray) (w : World) (sv lv : Value) (wr : World) : Prop :=
  ∃ (s : ByteArray) (l : List Frm), sv = .string s ∧ wr.ownsRow w.heap.size 51 3 lv l.length (fcells l) ∧ l.length * 20 + s.size ≤ s0.size ∧ (∀ l2 t, Runs s l2 t → Runs s0 (l ++ l2) t) ∧ Below w.heap.size w wr
theorem rest_lt (s : ByteArray) (h : codeS s = 0) : (restS s).size + 20 ≤ s.size := by
  obtain ⟨_, _, _, _, _, h6, _⟩ := code_ok h
  unfold restS; rw [ByteArray.size_extract]; omega

set_option maxHeartbeats 1000000 in
theorem all_any (s0 : ByteArray) (hmax : s0.size ≤ 1000000000) (w : World) : Calls Try.prog 29 #[.string s0] w (AllP s0 w) := by
  go_enter Try.func29, Try.ntmps29
  go_wp2
  go_loopw [0, 4] (fun sv lv wr => AllI s0 w sv lv wr) (fun sv _ _ => strSize sv)
  case atStart => exact ⟨s0, [], rfl, World.ownsRow_nil _ _ _ _, by simp, fun l2 t h => h, Below.refl _ _⟩
  case round =>
    obtain ⟨s, l, rfl, hown, hlen, hruns, hb⟩ := hrel
    have hr := read_any s (by omega)
    by_cases hc : codeS s = 0
    · obtain ⟨r1, r2, r3, r4, _⟩ := r_ok hc
      rw [r1, r2, r3, r4, hc] at hr
      clear r1 r2 r3 r4
      have HR := Lib.hid hruns
      have HC := Lib.hid hc
      have HB := Lib.hid hb
      have HO := Lib.hid hown
      have HLT := Lib.hid (rest_lt s hc)
      clear hruns hc hb hown
      have HRS : Hid (∀ l2 t, Runs (restS s) l2 t → Runs s0 ((l ++ [(kindS s, epS s, bodyS s)]) ++ l2) t) := Lib.hid (fun l2 t h => by
        have := HR.out _ _ (Runs.step s l2 t HC.out h)
        simpa using this)
      obtain ⟨k, hk⟩ : ∃ k, k = kindS s := ⟨_, rfl⟩
      obtain ⟨e, he⟩ : ∃ e, e = epS s := ⟨_, rfl⟩
      obtain ⟨b, hbd⟩ : ∃ b, b = bodyS s := ⟨_, rfl⟩
      obtain ⟨r, hrr⟩ : ∃ r, r = restS s := ⟨_, rfl⟩
      rw [← hk, ← he, ← hbd, ← hrr] at hr HRS
      rw [← hrr] at HLT
      clear hk he hbd hrr HR HC
      have K1 := Lib.hid hr
      clear hr
      go_wp2_with fail
      refine (K1.out _).mono ?_
      rintro x w2 ⟨rfl, hb2⟩
      unfold rdV
      have own3 := (owns_later HO.out hb2).alloc (.cells #[.int .i64 (k : Int), .int .u64 (e : Int), .string b] 51)
      have HB2 := Lib.hid (HB.out.trans (hb2.mono HB.out.size))
      have hb3 : Below w2.heap.size w2 (w2.alloc (.cells #[.int .i64 k, .int .u64 e, .string b] 51)) := (Below.refl _ _).alloc (Nat.le_refl _) _
      have HB3 := Lib.hid (HB2.out.trans (hb3.mono HB2.out.size))
      have hB0 := HB3.out.size
      obtain ⟨d0, d1, d2, _, _, _⟩ := Frz.new w2 k e b
      have HO3 := Lib.hid own3
      clear hb2 hb3 own3
      go_wp2_with (first
        | (at_builtin; go_must (refine wpList_append_frame (w2.alloc (.cells #[.int .i64 (k : Int), .int .u64 (e : Int), .string b] 51)) rfl (.tmp 19) (.tmp 21) rfl w.heap.size u4 l.length l rfl HO3.out k e b _ (by simp) rfl (by omega) (by omega) ?_); intro v1 w3 hown3 hb4))
      go_roundw
      case rel =>
        refine ⟨r, l ++ [(k, e, b)], rfl, ?_, ?_, HRS.out, HB3.out.trans hb4⟩
        · rw [List.length_append]; exact hown3
        · have := HLT.out; rw [List.length_append]; simp; omega
      case measure => have := HLT.out; show strSize (.string r) < s.size; simp [strSize]; omega
    · have hlt := code_lt s
      have hq : (((codeS s : Nat) : Int) != 0) = true := by simp; omega
      obtain ⟨r1, r2, r3, r4, _⟩ := r_bad hc
      rw [r1, r2, r3, r4] at hr
      clear r1 r2 r3 r4 hlt
      have HRS := Lib.hid (hruns [] s (Runs.stop s hc))
      have K2 := Lib.hid (fun w => clone_any s w (by omega))
      have HB := Lib.hid hb
      have HO := Lib.hid hown
      clear hruns hc hb hown
      generalize codeS s = c at *
      have K1 := Lib.hid hr
      clear hr
      go_wp2_with fail
      refine (K1.out _).mono ?_
      rintro x w2 ⟨rfl, hb2⟩
      unfold rdV
      have hb3 : Below w2.heap.size w2 (w2.alloc (.cells #[.int .i64 ((0 : Nat) : Int), .int .u64 ((0 : Nat) : Int), .string ⟨#[]⟩] 51)) := (Below.refl _ _).alloc (Nat.le_refl _) _
      have HO3 := Lib.hid (owns_later (owns_later HO.out hb2) hb3)
      have HB2 := Lib.hid (HB.out.trans (hb2.mono HB.out.size))
      have HB3 := Lib.hid (HB2.out.trans (hb3.mono HB2.out.size))
      clear hb2 hb3
      go_wp2_with fail
      refine (K2.out _).mono ?_
      rintro x w3 ⟨rfl, hb4⟩
      go_wp2
      go_ret2
      have hl := HRS.out
      rw [List.append_nil] at hl
      exact ⟨u4, l, s, rfl, hl, by omega, owns_later HO3.out hb4, HB3.out.trans (hb4.mono HB3.out.size)⟩
end Go.Proofs.Ytlochpnifjmefaa

namespace Go.Proofs.Ytlochpnifjmefaa
open Go.RowKit

/-- A frame as it may be handed in. -/
abbrev Fri := Int × Nat × ByteArray
def gd (f : Fri) : Prop := 1 ≤ f.1 ∧ f.1 ≤ 255 ∧ f.2.2.size ≤ 8192 ∧ f.2.1 ≤ 18446744073709551615
def toF (f : Fri) : Frm := (f.1.toNat, f.2.1, f.2.2)
def frameOf (f : Fri) : List UInt8 := frameL f.1.toNat f.2.1 f.2.2.data.toList
def flatF (l : List Fri) : List UInt8 := l.flatMap frameOf
theorem frameOf_length (f : Fri) : (frameOf f).length = f.2.2.size + 20 := by unfold frameOf; rw [frameL_length]; simp
theorem flatF_cons (f : Fri) (l : List Fri) : flatF (f :: l) = frameOf f ++ flatF l := by simp [flatF]
theorem flatF_snoc (l : List Fri) (f : Fri) : flatF (l ++ [f]) = flatF l ++ frameOf f := by simp [flatF]

theorem read_of (f : Fri) (hf : gd f) (r : List UInt8) (s : ByteArray) (hs : s = str (frameOf f ++ r)) :
    codeS s = 0 ∧ (kindS s, epS s, bodyS s) = toF f ∧ restS s = str r := by
  obtain ⟨h1, h2, h3, h4⟩ := hf
  obtain ⟨c, q1, q2, q3, q4, _⟩ := read_frame f.1.toNat f.2.1 f.2.2 r (by omega) (by omega) h4 h3 s hs
  exact ⟨c, by rw [q1, q2, q3]; rfl, q4⟩
theorem runs_flat (fs : List Fri) (hg : ∀ f ∈ fs, gd f) (r : List UInt8) (l : List Frm) (t : ByteArray) (h : Runs (str r) l t) : Runs (str (flatF fs ++ r)) (fs.map toF ++ l) t := by
  induction fs with
  | nil => exact h
  | cons f fs ih =>
    have h2 := ih (fun x hx => hg x (by simp [hx]))
    obtain ⟨c, q, q4⟩ := read_of f (hg f (by simp)) (flatF fs ++ r) (str (flatF (f :: fs) ++ r)) (by rw [flatF_cons, List.append_assoc])
    rw [← q4] at h2
    have h3 := Runs.step _ _ _ c h2
    rw [q] at h3
    exact h3
theorem runs_none : Runs (str []) [] (str []) := Runs.stop _ (by
  intro h
  have := (code_ok h).1
  simp [str, ByteArray.size] at this)

theorem cut_code (f : Fri) (hf : gd f) (c : Nat) (hc : c < (frameOf f).length) : codeS (str ((frameOf f).take c)) ≠ 0 := by
  intro h
  obtain ⟨h20, _, _, _, _, h6, _⟩ := code_ok h
  obtain ⟨h1, h2, h3, h4⟩ := hf
  obtain ⟨_, _, _, _, _, q5⟩ := read_frame f.1.toNat f.2.1 f.2.2 [] (by omega) (by omega) h4 h3 (str (frameOf f)) (by simp [frameOf])
  rw [frameOf_length] at hc
  have hz : (str ((frameOf f).take c)).size = c := by rw [size_str, List.length_take, frameOf_length]; omega
  have e : lenN (str ((frameOf f).take c)) = lenN (str (frameOf f)) := by
    unfold lenN
    rw [ext_list, ext_list, data_str, data_str, List.drop_take, List.take_take, show min (16 - 12) (c - 12) = 16 - 12 by omega]
  rw [e, q5] at h6
  omega

/-- How many of the frames lie whole within the first k bytes. -/
def cntR : List Fri → Nat → Nat
  | [], _ => 0
  | f :: fs, k => if (frameOf f).length ≤ k then cntR fs (k - (frameOf f).length) + 1 else 0
theorem cntR_le (fs : List Fri) : ∀ k, cntR fs k ≤ fs.length := by
  induction fs with
  | nil => intro k; exact Nat.zero_le _
  | cons f fs ih =>
    intro k
    unfold cntR
    split
    · have := ih (k - (frameOf f).length); rw [List.length_cons]; omega
    · exact Nat.zero_le _
theorem runs_cut (fs : List Fri) : ∀ k, (∀ f ∈ fs, gd f) → ∃ t, Runs (str ((flatF fs).take k)) ((fs.take (cntR fs k)).map toF) t := by
  induction fs with
  | nil => intro k _; exact ⟨_, by simpa [flatF] using runs_none⟩
  | cons f fs ih =>
    intro k hg
    by_cases hk : (frameOf f).length ≤ k
    · obtain ⟨t, ht⟩ := ih (k - (frameOf f).length) (fun x hx => hg x (by simp [hx]))
      refine ⟨t, ?_⟩
      have e : (flatF (f :: fs)).take k = frameOf f ++ (flatF fs).take (k - (frameOf f).length) := by
        rw [flatF_cons, List.take_append, List.take_of_length_le hk]
      obtain ⟨c, q, q4⟩ := read_of f (hg f (by simp)) _ (str ((flatF (f :: fs)).take k)) (by rw [e])
      rw [← q4] at ht
      have h3 := Runs.step _ _ _ c ht
      rw [q] at h3
      unfold cntR
      rw [if_pos hk]
      exact h3
    · refine ⟨str ((flatF (f :: fs)).take k), ?_⟩
      unfold cntR
      rw [if_neg hk]
      refine Runs.stop _ ?_
      have e : (flatF (f :: fs)).take k = (frameOf f).take k := by
        rw [flatF_cons, List.take_append_of_le_length (by omega)]
      rw [e]
      exact cut_code f (hg f (by simp)) k (by omega)

/-- Where each ends. -/
def endsR : List Fri → Nat → List Nat
  | [], _ => []
  | f :: fs, o => (o + (frameOf f).length) :: endsR fs (o + (frameOf f).length)
theorem endsR_length (fs : List Fri) : ∀ o, (endsR fs o).length = fs.length := by
  induction fs with
  | nil => intro o; rfl
  | cons f fs ih => intro o; simp [endsR, ih]
theorem endsR_snoc (fs : List Fri) (f : Fri) : ∀ o, endsR (fs ++ [f]) o = endsR fs o ++ [o + (flatF (fs ++ [f])).length] := by
  induction fs with
  | nil => intro o; simp [endsR, flatF]
  | cons x fs ih =>
    intro o
    show _ :: endsR (fs ++ [f]) _ = _ :: _
    rw [ih, List.cons_append, flatF_cons, List.length_append, Nat.add_assoc]
    rfl
theorem endsR_ge (fs : List Fri) : ∀ o, ∀ x ∈ endsR fs o, o + 20 ≤ x := by
  induction fs with
  | nil => intro o x hx; simp [endsR] at hx
  | cons f fs ih =>
    intro o x hx
    have hl := frameOf_length f
    simp only [endsR, List.mem_cons] at hx
    rcases hx with rfl | hx
    · omega
    · have := ih _ x hx; omega
theorem cnt_ends (fs : List Fri) : ∀ o k, o ≤ k → (endsR fs o).countP (fun e => decide (e ≤ k)) = cntR fs (k - o) := by
  induction fs with
  | nil => intro o k _; rfl
  | cons f fs ih =>
    intro o k hk
    by_cases h : o + (frameOf f).length ≤ k
    · rw [endsR, List.countP_cons_of_pos (by simpa using h), ih _ k h, cntR, if_pos (by omega)]
      congr 2; omega
    · rw [endsR, List.countP_cons_of_neg (by simpa using h), cntR, if_neg (by omega)]
      rw [List.countP_eq_zero]
      intro x hx
      have := endsR_ge fs _ x hx
      simp; omega
theorem take_snoc' {α : Type} (l : List α) (j : Nat) (h : j < l.length) : l.take (j + 1) = l.take j ++ [l[j]] := by
  rw [List.take_succ_eq_append_getElem h]
theorem flat_le (l : List Fri) (h : ∀ f ∈ l, f.2.2.size ≤ 500) : (flatF l).length ≤ l.length * 520 := by
  induction l with
  | nil => simp [flatF]
  | cons f l ih =>
    have h1 := ih (fun x hx => h x (by simp [hx]))
    have h2 := h f (by simp)
    rw [flatF_cons, List.length_append, frameOf_length, List.length_cons]
    omega
end Go.Proofs.Ytlochpnifjmefaa
