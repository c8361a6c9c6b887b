/- FrameStream: more than eight frames; none; what its first loop keeps.; A slice of frames as an argument, opened. -/
import Derived.Test.YtlochpnifjmefaaJ33
import Derived.Test.YtlochpnifjmefaaJ32
import Derived.Deep.Slices
set_option linter.unusedVariables false
set_option linter.unusedSimpArgs false
namespace Go.Proofs.Ytlochpnifjmefaa
open Go.RowKit

def ecells (l : List Nat) : List Value := l.map fun (n : Nat) => Value.int .i64 ((n : Nat) : Int)
theorem info3 : (Try.prog.info? 3).map (fun i => (i.zero, i.size, i.bytes)) = some (some (.int .i64 0), 1, 8) := by kernel_rfl

/-- 'l = append(l, n)' of one number, l nil or the call's own. -/
theorem wpList_append_num (W : World) {ops : Array Oper} {rest : List Oper} {o : Oper} {a : Act} {Q : Exit → Act → World → Prop} (hgd : o.guard = none) (s x : Operand)
    (ho : o.op = .call { callee := .builtin .append, args := #[s, x], argTypes := #[71, 71] })
    (B : Nat) (v : Value) (n : Nat) (l : List Nat) (hs : a.eval s = v) (hown : W.ownsRow B 3 1 v n (ecells l))
    (c : Int) (m : Nat) (hc : c = (m : Int)) (hx : a.eval x = .slice (some ⟨W.heap.size, 0, none⟩) 1 1)
    (hk : n + 1 ≤ 1000000000000) (hB : B ≤ W.heap.size)
    (h : ∀ v' w', w'.ownsRow B 3 1 v' (n + 1) (ecells (l ++ [m])) → Below B W w' → wpList Try.prog ops Q rest (a.put o.dst v') w') :
    wpList Try.prog ops Q (o :: rest) a (W.alloc (.cells #[.int .i64 c] 3)) := by
  subst hc
  obtain ⟨i0, hi, hz0, hz1, hz2⟩ := info_parts info3
  refine wpList_append_own _ hgd s x 71 ho B 3 i0 (.int .i64 0) 1 8 Try.underlying71 hi hz0 hz1 hz2 rfl (by decide) v n (ecells l) hs (hown.alloc _) ⟨W.heap.size, 0, none⟩ 1 1 [.int .i64 (m : Int)] hx rfl ?_ ?_ ?_ ?_ ?_ ?_
  · intro j u hj
    match j, hj with
    | 0, hj => simp at hj; subst hj; simp [Addr.add]
  · intro u hu; simp at hu; subst hu; rfl
  · unfold maxLen; omega
  · omega
  · simp; omega
  · intro v' w' h1 h2 _
    rw [show ecells l ++ [.int .i64 (m : Int)] = ecells (l ++ [m]) by simp [ecells]] at h1
    refine h v' w' h1 ?_
    refine (((Below.refl B W).alloc hB _).grown h2 (by simp; omega) ?_)
    intro g hg
    exact (hown.lt g hg).1

theorem stream_great (at0 : Option Addr) (n cap a : Nat) (hn : 8 < n) (hcap : n ≤ 9223372036854775807) (w : World) :
    Calls Try.prog 8 #[.slice at0 n cap, .int .u16 a] w fun e w' => e = .returned (.bool true) ∧ Below w.heap.size w w' := by
  have hB := Below.refl w.heap.size w
  go_enter Try.func8, Try.ntmps8
  go_wp2_with (first
    | (go_at_call 22; go_must (refine (awake8_any _).mono ?_); rintro e w1 ⟨rfl, hb1⟩; replace hB := hB.trans (hb1.mono hB.size)))
  go_ret
  exact ⟨rfl, hB⟩

/-- The frames as they lie in the argument's cells. -/
def Lie (w : World) (b off : Nat) (fs : List Fri) : Prop :=
  ∀ i (h : i < fs.length), w.cell? ⟨b, off + i * 3, none⟩ = some (.int .i64 fs[i].1) ∧ w.cell? ⟨b, off + i * 3 + 1, none⟩ = some (.int .u64 (fs[i].2.1 : Int)) ∧ w.cell? ⟨b, off + i * 3 + 2, none⟩ = some (.string fs[i].2.2)
theorem Lie.later {w w' : World} {B b off : Nat} {fs : List Fri} (h : Lie w b off fs) (hb : Below B w w') (hlt : b < B) : Lie w' b off fs := by
  intro i hi
  obtain ⟨h0, h1, h2⟩ := h i hi
  exact ⟨(hb.cell (p := ⟨b, _, none⟩) hlt).trans h0, (hb.cell (p := ⟨b, _, none⟩) hlt).trans h1, (hb.cell (p := ⟨b, _, none⟩) hlt).trans h2⟩

/-- What the first loop keeps. -/
def SI (fs : List Fri) (w : World) (sv ev iv : Value) (wr : World) : Prop :=
  ∃ j : Nat, j ≤ fs.length ∧ iv = .int .i64 j ∧ sv = .string (str (flatF (fs.take j))) ∧ (∀ f ∈ fs.take j, gd f ∧ f.2.2.size ≤ 500) ∧ wr.ownsRow w.heap.size 3 1 ev j (ecells (endsR (fs.take j) 0)) ∧ Below w.heap.size w wr
/-- Behind a round. -/
theorem SI_step (fs : List Fri) (w : World) (j : Nat) (hj : j < fs.length) (hg : ∀ f ∈ fs.take j, gd f ∧ f.2.2.size ≤ 500) (hf : gd fs[j] ∧ fs[j].2.2.size ≤ 500) (ev : Value) (wr : World)
    (hown : wr.ownsRow w.heap.size 3 1 ev (j + 1) (ecells (endsR (fs.take j) 0 ++ [(flatF (fs.take j) ++ frameOf fs[j]).length]))) (hb : Below w.heap.size w wr) :
    SI fs w (.string (str (flatF (fs.take j) ++ frameOf fs[j]))) ev (.int .i64 ((j : Int) + 1)) wr := by
  refine ⟨j + 1, by omega, by go_num, ?_, ?_, ?_, hb⟩
  · rw [take_snoc' fs j hj, flatF_snoc]
  · intro f hm
    rw [take_snoc' fs j hj, List.mem_append] at hm
    rcases hm with hm | hm
    · exact hg f hm
    · simp at hm; rw [hm]; exact hf
  · rw [take_snoc' fs j hj, endsR_snoc, flatF_snoc, Nat.zero_add]; exact hown

theorem add_at (g j : Nat) : (⟨g, 0, none⟩ : Addr).add j = ⟨g, j, none⟩ := by simp [Addr.add]; intro e; exact e.symm
theorem fcells_at (l : List Frm) : ∀ i (h : i < l.length), (fcells l)[i * 3]? = some (.int .i64 (l[i].1 : Int)) ∧ (fcells l)[i * 3 + 1]? = some (.int .u64 (l[i].2.1 : Int)) ∧ (fcells l)[i * 3 + 2]? = some (.string l[i].2.2) := by
  induction l with
  | nil => intro i h; simp at h
  | cons f l ih =>
    intro i h
    have e : fcells (f :: l) = .int .i64 (f.1 : Int) :: .int .u64 (f.2.1 : Int) :: .string f.2.2 :: fcells l := by simp [fcells]
    rw [e]
    match i, h with
    | 0, _ => exact ⟨rfl, rfl, rfl⟩
    | i + 1, h =>
      obtain ⟨h0, h1, h2⟩ := ih i (by simpa using h)
      rw [show (i + 1) * 3 = i * 3 + 1 + 1 + 1 by omega]
      exact ⟨by simpa using h0, by simpa using h1, by simpa using h2⟩
/-- Frames that the call itself has put one behind the other. -/
theorem own_lie {w : World} {B n g m cap : Nat} (fs : List Fri) (hg : ∀ f ∈ fs, gd f) (h : w.ownsRow B 51 3 (.slice (some ⟨g, 0, none⟩) m cap) n (fcells (fs.map toF))) : Lie w g 0 fs := by
  intro i hi
  have hi' : i < (fs.map toF).length := by simpa using hi
  obtain ⟨h0, h1, h2⟩ := fcells_at _ i hi'
  have hk := hg _ (List.getElem_mem hi)
  have hz : ((fs[i].1.toNat : Nat) : Int) = fs[i].1 := by have := hk.1; omega
  have c0 := h.cells (g := g) rfl _ _ h0
  have c1 := h.cells (g := g) rfl _ _ h1
  have c2 := h.cells (g := g) rfl _ _ h2
  rw [add_at] at c0 c1 c2
  simp only [List.getElem_map, toF, hz] at c0 c1 c2
  rw [Nat.zero_add]
  exact ⟨c0, c1, c2⟩
theorem own_num {w : World} {B n g m cap : Nat} (l : List Nat) (h : w.ownsRow B 3 1 (.slice (some ⟨g, 0, none⟩) m cap) n (ecells l)) (i x : Nat) (hx : l[i]? = some x) : w.cell? ⟨g, i, none⟩ = some (.int .i64 ((x : Nat) : Int)) := by
  have := h.cells (g := g) rfl i (.int .i64 ((x : Nat) : Int)) (by simp [ecells, hx])
  rw [add_at] at this
  exact this
/-- So many of the first ends lie within the first k bytes. -/
def cj (fs : List Fri) (k j : Nat) : Nat := ((endsR fs 0).take j).countP (fun e => decide (e ≤ k))
theorem cj_zero (fs : List Fri) (k : Nat) : cj fs k 0 = 0 := rfl
theorem cj_all (fs : List Fri) (k : Nat) : cj fs k fs.length = cntR fs k := by
  unfold cj
  rw [List.take_of_length_le (by rw [endsR_length]; exact Nat.le_refl _), cnt_ends fs 0 k (Nat.zero_le _)]
  rfl
theorem cj_more (fs : List Fri) (k j x : Nat) (hx : (endsR fs 0)[j]? = some x) : cj fs k (j + 1) = cj fs k j + if x ≤ k then 1 else 0 := by
  obtain ⟨hj, e⟩ := List.getElem?_eq_some_iff.1 hx
  unfold cj
  rw [List.take_succ_eq_append_getElem hj, List.countP_append, e]
  by_cases h : x ≤ k <;> simp [h]
theorem cj_le (fs : List Fri) (k j : Nat) : cj fs k j ≤ j := by
  unfold cj
  have h1 := List.countP_le_length (p := fun e => decide (e ≤ k)) (l := (endsR fs 0).take j)
  have h2 := List.length_take_le j (endsR fs 0)
  omega
end Go.Proofs.Ytlochpnifjmefaa

namespace Go.Proofs.Ytlochpnifjmefaa
open Go.ChangeShapes Go.WideShapes Go.ChangeAt Go.RowKit Go.Deep

section
variable {H : Type} {enc : TypeId × Value → H} {w : World} {sp : Nat → Bool} {held : Bool}
set_option maxRecDepth 100000 in
theorem open_frames {fuel : Nat} {at0 : Option Addr} {n cap : Nat} {x : DataW H × List MemPlace} (h : DataW.trod enc Try.prog w 0 sp held fuel 63 [.slice at0 n cap] = some x) :
    ∃ (l : List Fri) (b off : Nat), n = l.length ∧ l.length ≤ 9223372036854775807 ∧ (0 < l.length → at0 = some ⟨b, off, none⟩) ∧ (0 < l.length → b < w.heap.size) ∧ Lie w b off l ∧ ∀ f ∈ l, f.2.1 ≤ 18446744073709551615 := by
  rcases open_slice Try.underlying63 h with ⟨hcs, _⟩ | ⟨a, len, cap', m, n', D, Pl, hcs, hb, hl, hm, hmm, hx, hi⟩
  · simp only [List.cons.injEq, Value.slice.injEq, and_true] at hcs
    obtain ⟨rfl, rfl, rfl⟩ := hcs
    exact ⟨[], 0, 0, rfl, by simp, fun h => absurd h (by simp), fun h => absurd h (by simp), fun k h => absurd h (by simp), fun f hf => absurd hf (by simp)⟩
  · simp only [List.cons.injEq, Value.slice.injEq, and_true] at hcs
    obtain ⟨rfl, rfl, rfl⟩ := hcs
    have hnm : n ≤ m := by rw [hmm]; split <;> omega
    obtain ⟨b, off, spot⟩ := a
    have each : ∀ i, i < n → ∃ q : Fri, w.cell? (((⟨b, off, spot⟩ : Addr).add (i * 3)).add 0) = some (.int .i64 q.1) ∧ w.cell? (((⟨b, off, spot⟩ : Addr).add (i * 3)).add 1) = some (.int .u64 (q.2.1 : Int)) ∧ w.cell? (((⟨b, off, spot⟩ : Addr).add (i * 3)).add 2) = some (.string q.2.2) ∧ q.2.1 ≤ 18446744073709551615 := by
      intro i hlt
      obtain ⟨cs', h1, h2⟩ := hi i (by omega)
      rw [cells51] at h1
      obtain ⟨_, hlen, hcell⟩ := World.cells?_some h1
      obtain ⟨k, e, bd, _, he, _, rfl⟩ := trod_fr h2
      exact ⟨(k, e, bd), hcell 0 (by omega), hcell 1 (by omega), hcell 2 (by omega), he⟩
    obtain ⟨q, hq⟩ := choose_lt each
    refine ⟨(List.range n).map q, b, off, by simp, by simp; unfold maxLen at hm; omega, ?_, ?_, ?_, ?_⟩
    · intro hp
      have h0 := (hq 0 (by simpa using hp)).1
      have := World.cell?_spot h0
      unfold Addr.add at this
      simp at this
      rw [this]
    · intro hp
      have h0 := (hq 0 (by simpa using hp)).1
      have hb := World.block_lt_of_cell? w _ h0
      unfold Addr.add at hb
      simpa using hb
    · intro k hk
      have hk' : k < n := by simpa using hk
      have h0 := (hq 0 (by omega)).1
      have hs := World.cell?_spot h0
      unfold Addr.add at hs
      simp at hs
      subst hs
      obtain ⟨g0, g1, g2, _⟩ := hq k hk'
      rw [add_plain, add_plain] at g0 g1 g2
      simp only [List.getElem_map, List.getElem_range]
      exact ⟨by simpa using g0, by simpa [Nat.add_assoc] using g1, by simpa [Nat.add_assoc] using g2⟩
    · intro f hf
      obtain ⟨i, hi2, rfl⟩ := List.mem_map.1 hf
      exact (hq i (by simpa using hi2)).2.2.2
end
end Go.Proofs.Ytlochpnifjmefaa
