/- FrameRows: plain facts. -/
import Derived.Test.YtlochpnifjmefaaSA
namespace Go.Proofs.Ytlochpnifjmefaa
open Go.RowKit

/-- May the frame be written? -/
def gdb (f : Fri) : Bool := decide (1 ≤ f.1 ∧ f.1 ≤ 255 ∧ f.2.2.size ≤ 8192)
def gds (fs : List Fri) : List Fri := fs.filter gdb
theorem gds_yes (l : List Fri) (f : Fri) (h : gdb f = true) : gds (l ++ [f]) = gds l ++ [f] := by simp [gds, h]
theorem gds_no (l : List Fri) (f : Fri) (h : gdb f = false) : gds (l ++ [f]) = gds l := by simp [gds, h]
theorem gds_len (l : List Fri) : (gds l).length ≤ l.length := List.length_filter_le _ _
set_option maxRecDepth 10000 in
theorem gds_le (l : List Fri) (h : ∀ f ∈ l, f.2.2.size ≤ 2000) : (flatF (gds l)).length ≤ l.length * 2020 := by
  induction l with
  | nil => simp [gds, flatF]
  | cons f l ih =>
    have h1 := ih (fun x hx => h x (by simp [hx]))
    have h2 := h f (by simp)
    have e : gds (f :: l) = if gdb f then f :: gds l else gds l := by simp [gds, List.filter_cons]
    rw [e, List.length_cons]
    split
    · rw [flatF_cons, List.length_append, frameOf_length]; omega
    · omega
theorem gds_gd (l : List Fri) (h : ∀ f ∈ l, f.2.1 ≤ 18446744073709551615) : ∀ f ∈ gds l, gd f := by
  intro f hf
  obtain ⟨h1, h2⟩ := List.mem_filter.1 hf
  obtain ⟨a, b, c⟩ : 1 ≤ f.1 ∧ f.1 ≤ 255 ∧ f.2.2.size ≤ 8192 := by simpa [gdb] using h2
  exact ⟨a, b, c, h f h1⟩

theorem runs_total : ∀ (n : Nat) (s : ByteArray), s.size ≤ n → ∃ l t, Runs s l t := by
  intro n
  induction n with
  | zero =>
    intro s hs
    refine ⟨[], s, Runs.stop s ?_⟩
    intro h
    have := (code_ok h).1
    omega
  | succ n ih =>
    intro s hs
    by_cases h : codeS s = 0
    · have := rest_lt s h
      obtain ⟨l, t, hr⟩ := ih (restS s) (by omega)
      exact ⟨_, _, Runs.step s l t h hr⟩
    · exact ⟨[], s, Runs.stop s h⟩

/-- The frames of a text from a place on. -/
theorem runs_cons {r : ByteArray} {f : Frm} {l : List Frm} {t : ByteArray} (h : Runs r (f :: l) t) : codeS r = 0 ∧ f = (kindS r, epS r, bodyS r) ∧ Runs (restS r) l t := by
  cases h with
  | step _ _ _ h hr => exact ⟨h, rfl, hr⟩
theorem runs_end {r t : ByteArray} (h : Runs r [] t) : codeS r ≠ 0 ∧ t = r := by
  cases h with
  | stop _ h => exact ⟨h, rfl⟩
theorem rest_ext (T : ByteArray) (a : Nat) (ha : a ≤ T.size) (h : codeS (T.extract a T.size) = 0) :
    restS (T.extract a T.size) = T.extract (a + (lenN (T.extract a T.size) + 20)) T.size ∧ a + (lenN (T.extract a T.size) + 20) ≤ T.size := by
  obtain ⟨_, _, _, _, _, h6, _⟩ := code_ok h
  have hz : (T.extract a T.size).size = T.size - a := by rw [ByteArray.size_extract]; omega
  rw [hz] at h6
  refine ⟨?_, by omega⟩
  have hl : T.data.toList.length = T.size := by simp
  unfold restS
  generalize lenN (T.extract a T.size) = m at *
  apply ByteArray.ext
  apply Array.ext'
  rw [ext_list, ext_list, ext_list, hz, List.drop_take, List.drop_drop, List.take_take]
  congr 1
  omega
/-- Frames that the call itself has put one behind the other, a slice of them. -/
theorem own_frm {w : World} {B g m cap n : Nat} (l : List Frm) (h : w.ownsRow B 51 3 (.slice (some ⟨g, 0, none⟩) m cap) n (fcells l)) (i : Nat) (hi : i < l.length) :
    w.cell? ⟨g, i * 3, none⟩ = some (.int .i64 (l[i].1 : Int)) ∧ w.cell? ⟨g, i * 3 + 1, none⟩ = some (.int .u64 (l[i].2.1 : Int)) ∧ w.cell? ⟨g, i * 3 + 2, none⟩ = some (.string l[i].2.2) := by
  obtain ⟨h0, h1, h2⟩ := fcells_at _ i hi
  have c0 := h.cells (g := g) rfl _ _ h0
  have c1 := h.cells (g := g) rfl _ _ h1
  have c2 := h.cells (g := g) rfl _ _ h2
  rw [add_at] at c0 c1 c2
  exact ⟨c0, c1, c2⟩
theorem own_opt {w : World} {B : Nat} {v : Value} (l : List Frm) (h : w.ownsRow B 51 3 v l.length (fcells l)) :
    ∃ (o : Option Addr) (cap g : Nat), v = .slice o l.length cap ∧ (0 < l.length → o = some ⟨g, 0, none⟩ ∧ g < w.heap.size) ∧ ∀ i (hi : i < l.length), w.cell? ⟨g, i * 3, none⟩ = some (.int .i64 (l[i].1 : Int)) ∧ w.cell? ⟨g, i * 3 + 1, none⟩ = some (.int .u64 (l[i].2.1 : Int)) ∧ w.cell? ⟨g, i * 3 + 2, none⟩ = some (.string l[i].2.2) := by
  have h' := h
  rcases h.2 with ⟨rfl, h0⟩ | ⟨g, cap, cur, rfl, _⟩
  · refine ⟨none, 0, 0, by rw [h0], fun hp => absurd hp (by omega), fun i hi => absurd hi (by omega)⟩
  · exact ⟨_, cap, g, rfl, fun _ => ⟨rfl, (h'.lt g rfl).2⟩, fun i hi => own_frm l h' i hi⟩
end Go.Proofs.Ytlochpnifjmefaa
