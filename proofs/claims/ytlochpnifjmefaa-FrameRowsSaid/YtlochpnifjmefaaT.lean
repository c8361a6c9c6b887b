import Derived.Test.YtlochpnifjmefaaR
/- Bytes that the call itself holds, read and written in place. -/
namespace Go.Proofs.Ytlochpnifjmefaa
open Go.RowKit

/-- Block g begins with these bytes; none is frozen. -/
def Bts (w : World) (g : Nat) (l : List UInt8) : Prop :=
  ∀ j, j < l.length → w.cell? ⟨g, j, none⟩ = some (.int .u8 ((l.getD j 0).toNat : Int)) ∧ w.frozen? ⟨g, j, none⟩ = false

theorem Bts.lt {w : World} {g : Nat} {l : List UInt8} (h : Bts w g l) (hl : 0 < l.length) : g < w.heap.size := by
  have := (h 0 hl).1
  rcases Nat.lt_or_ge g w.heap.size with hlt | hge
  · exact hlt
  · simp [World.cell?, Array.getElem?_eq_none hge] at this
theorem Bts.alloc {w : World} {g : Nat} {l : List UInt8} (h : Bts w g l) (o : Obj) : Bts (w.alloc o) g l := by
  intro j hj
  have hlt := h.lt (by omega)
  obtain ⟨h1, h2⟩ := h j hj
  have hb := Below.heap_alloc w o g hlt
  exact ⟨(World.cell?_of_block (w := w) hb).trans h1, (World.frozen?_of_block (w := w) hb).trans h2⟩
theorem Bts.drewN {w : World} {g : Nat} {l : List UInt8} (h : Bts w g l) (n : Nat) : Bts (w.drewN n) g l := h
theorem Bts.below {w w' : World} {B g : Nat} {l : List UInt8} (h : Bts w g l) (hb : Below B w w') (hg : g < B) : Bts w' g l := by
  intro j hj
  obtain ⟨h1, h2⟩ := h j hj
  exact ⟨(hb.cell (p := ⟨g, j, none⟩) hg).trans h1, (hb.frozen (p := ⟨g, j, none⟩) hg).trans h2⟩
theorem Bts.set {w : World} {g : Nat} {l : List UInt8} (h : Bts w g l) (k : Nat) (hk : k < l.length) (c : Int) (x : UInt8) (hc : c = (x.toNat : Int)) : Bts (w.setCell ⟨g, k, none⟩ (.int .u8 c)) g (l.set k x) := by
  subst hc
  intro j hj
  rw [List.length_set] at hj
  obtain ⟨h1, h2⟩ := h j hj
  by_cases e : j = k
  · subst e
    refine ⟨?_, ?_⟩
    · have := (h j hj).1
      rw [World.cell?_setCell_same w _ _ this]
      simp [List.getD, hj]
    · rw [World.frozen?_setCell]; exact h2
  · refine ⟨?_, ?_⟩
    · rw [World.cell?_setCell_other w _ _ _ (by intro he; injection he with _ he _; exact e he.symm), h1]
      simp [List.getD, Ne.symm e]
    · rw [World.frozen?_setCell]; exact h2

theorem Bts.string {w : World} {g cap : Nat} {l : List UInt8} (h : Bts w g l) :
    (convert 69 9 (.slice (some ⟨g, 0, none⟩) l.length cap)).run Try.prog w = .ok (.string (str l)) w := by
  refine run_convert_bytes_back (P := Try.prog) w 69 9 5 ⟨g, 0, none⟩ cap l Try.underlying69 Try.underlying5 Try.underlying9 ?_
  intro j hj
  have := (h j hj).1
  rw [show (⟨g, 0, none⟩ : Addr).add j = ⟨g, j, none⟩ by simp [Addr.add]; intro e; exact e.symm, this]
  simp [List.getD, hj]

/-- '[]byte(s)'. -/
theorem bytes_of (w : World) (s : ByteArray) : ∃ cap w', (convert 9 69 (.string s)).run Try.prog w = .ok (.slice (some ⟨w.heap.size, 0, none⟩) s.size cap) w' ∧ Bts w' w.heap.size s.data.toList ∧ Below w.heap.size w w' ∧ w.heap.size < w'.heap.size := by
  refine ⟨_, _, run_bytes_of_string w 9 69 5 s Try.underlying9 Try.underlying69 Try.underlying5, ?_, ?_, ?_⟩
  · intro j hj
    have hc := grownCap_ge w s.size 0 5
    have hj' : j < s.size := by simpa using hj
    generalize grownCap w s.size 0 5 = cap at *
    refine ⟨?_, ?_⟩
    · have h := World.cell?_alloc_mark w.drew (bytesRow s cap) 5 ((bytesRow s cap).size, (bytesRow s cap).size + 1) j
      refine h.trans ?_
      rw [bytesRow, Array.getElem?_append_left (by simpa using hj'), Array.getElem?_map]
      have hd : j < s.data.size := hj'
      rw [Array.getElem?_eq_getElem hd]
      simp [List.getD]
      rw [Array.getElem?_eq_getElem hd]
      rfl
    · have h := World.frozen?_alloc_mark w.drew (bytesRow s cap) 5 (bytesRow s cap).size ((bytesRow s cap).size + 1) j
      refine h.trans ?_
      have : s.size ≤ (bytesRow s cap).size := by
        rw [bytesRow, Array.size_append, Array.size_map]; exact Nat.le_add_right _ _
      simp; omega
  · exact ((Below.refl _ w).drew).alloc (Nat.le_refl _) _
  · simp
end Go.Proofs.Ytlochpnifjmefaa
