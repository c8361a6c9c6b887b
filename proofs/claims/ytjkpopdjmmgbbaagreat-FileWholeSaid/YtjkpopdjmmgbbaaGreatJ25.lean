/- Acts, rows of rows as arguments, opened.; FileWhole: the contracts as its walk takes them.; The law FileWhole, from the power's return on. -/
import Derived.Test.YtjkpopdjmmgbbaaGreatJ24
import Derived.ChangeSame
import Derived.OpenShut
import Derived.Deep.Slices
set_option linter.unusedVariables false
set_option linter.unusedSimpArgs false
namespace Go.Proofs.YtjkpopdjmmgbbaaGreat.Fi
open Go.ChangeShapes Go.WideShapes Go.RowKit Go.Deep Go.Maps Dk

structure Ac where
  a : ByteArray
  b : ByteArray
  n : Nat
  bb : Nat
  cl : Bool
  f : Int
instance : Inhabited Ac := ⟨⟨⟨#[]⟩, ⟨#[]⟩, 0, 0, false, 0⟩⟩
def SlB (w : World) (l : List Bool) (v : Value) : Prop := ∃ (o : Option Addr) (cap b off : Nat), v = .slice o l.length cap ∧ (0 < l.length → o = some ⟨b, off, none⟩ ∧ b < w.heap.size) ∧ BoolsIn w l b off
def SlU (w : World) (l : List Nat) (v : Value) : Prop := ∃ (o : Option Addr) (cap b off : Nat), v = .slice o l.length cap ∧ (0 < l.length → o = some ⟨b, off, none⟩ ∧ b < w.heap.size) ∧ U64sIn w l b off
def AcIn (q : Ac) (c0 c1 c2 c3 c4 c5 : Value) : Prop := c0 = .string q.a ∧ c1 = .string q.b ∧ c2 = .int .u16 (q.n : Int) ∧ q.n ≤ 65535 ∧ c3 = .int .u8 (q.bb : Int) ∧ q.bb ≤ 255 ∧ c4 = .bool q.cl ∧ c5 = .int .i8 q.f ∧ -128 ≤ q.f ∧ q.f ≤ 127
def AcsIn (w : World) (b off : Nat) (l : List Ac) : Prop := ∀ i (h : i < l.length), ∃ c0 c1 c2 c3 c4 c5, w.cell? ⟨b, off + i * 6, none⟩ = some c0 ∧ w.cell? ⟨b, off + i * 6 + 1, none⟩ = some c1 ∧ w.cell? ⟨b, off + i * 6 + 2, none⟩ = some c2 ∧ w.cell? ⟨b, off + i * 6 + 3, none⟩ = some c3 ∧ w.cell? ⟨b, off + i * 6 + 4, none⟩ = some c4 ∧ w.cell? ⟨b, off + i * 6 + 5, none⟩ = some c5 ∧ AcIn l[i] c0 c1 c2 c3 c4 c5
def BssIn (w : World) (b off : Nat) (l : List (List Bool)) : Prop := ∀ i (h : i < l.length), ∃ v, w.cell? ⟨b, off + i, none⟩ = some v ∧ SlB w l[i] v
def UssIn (w : World) (b off : Nat) (l : List (List Nat)) : Prop := ∀ i (h : i < l.length), ∃ v, w.cell? ⟨b, off + i, none⟩ = some v ∧ SlU w l[i] v
theorem cells39 : Tryz.prog.cellsOf 39 = 6 := by kernel_rfl
theorem cells4 : Tryz.prog.cellsOf 4 = 1 := by kernel_rfl
theorem cells64 : Tryz.prog.cellsOf 64 = 1 := by kernel_rfl
theorem cells5 : Tryz.prog.cellsOf 5 = 1 := by kernel_rfl
theorem cells9 : Tryz.prog.cellsOf 9 = 1 := by kernel_rfl
theorem cells30 : Tryz.prog.cellsOf 30 = 1 := by kernel_rfl
theorem cells37 : Tryz.prog.cellsOf 37 = 1 := by kernel_rfl
theorem cells58 : Tryz.prog.cellsOf 58 = 1 := by kernel_rfl
theorem cells59 : Tryz.prog.cellsOf 59 = 1 := by kernel_rfl
theorem natU8 {n : Int} (h : (Lit.int .u8 n).wf = true) : ∃ a : Nat, n = a ∧ a ≤ 255 := by
  have h0 : 0 ≤ n ∧ n ≤ 255 := by
    simp [Lit.wf, IntKind.min, IntKind.max, IntKind.signed, IntKind.bits] at h; omega
  exact ⟨n.toNat, by omega, by omega⟩
theorem natU16 {n : Int} (h : (Lit.int .u16 n).wf = true) : ∃ a : Nat, n = a ∧ a ≤ 65535 := by
  have h0 : 0 ≤ n ∧ n ≤ 65535 := by
    simp [Lit.wf, IntKind.min, IntKind.max, IntKind.signed, IntKind.bits] at h; omega
  exact ⟨n.toNat, by omega, by omega⟩
theorem natU64 {n : Int} (h : (Lit.int .u64 n).wf = true) : ∃ a : Nat, n = a ∧ a ≤ 18446744073709551615 := by
  have h0 : 0 ≤ n ∧ n ≤ 18446744073709551615 := by
    simp [Lit.wf, IntKind.min, IntKind.max, IntKind.signed, IntKind.bits] at h; omega
  exact ⟨n.toNat, by omega, by omega⟩
theorem intI8 {n : Int} (h : (Lit.int .i8 n).wf = true) : -128 ≤ n ∧ n ≤ 127 := by
  simp [Lit.wf, IntKind.min, IntKind.max, IntKind.signed, IntKind.bits] at h; omega
section
variable {H : Type} {enc : TypeId × Value → H} {w : World} {sp : Nat → Bool} {held : Bool}
set_option maxRecDepth 100000 in
theorem trod_bools {fuel : Nat} {cs : List Value} {x : DataW H × List MemPlace} (h : DataW.trod enc Tryz.prog w 0 sp held fuel 58 cs = some x) : ∃ l v, cs = [v] ∧ SlB w l v := by
  rcases open_slice1 Tryz.underlying58 cells4 h with ⟨hcs, _⟩ | ⟨a, len, cap, m, n, V, D, Pl, hcs, hb, hl, hm, hmm, hx, hi⟩
  · exact ⟨[], _, hcs, none, 0, 0, 0, rfl, fun h => absurd h (by simp), fun j h => absurd h (by simp)⟩
  · have hlm : len ≤ m := by rw [hmm]; split <;> omega
    obtain ⟨b, off, spot⟩ := a
    have each : ∀ j, j < len → ∃ u : Bool, w.cell? ((⟨b, off, spot⟩ : Addr).add j) = some (.bool u) := by
      intro j hj
      obtain ⟨h1, h2⟩ := hi j (by omega)
      obtain ⟨n, e0, _⟩ := DataW.trod_bool Tryz.underlying4 h2
      simp at e0
      exact ⟨n, by rw [h1, e0]⟩
    obtain ⟨u, hu⟩ := choose_lt each
    refine ⟨(List.range len).map u, _, hcs, some ⟨b, off, spot⟩, cap, b, off, by simp, ?_, ?_⟩
    · intro hp
      have h0 := hu 0 (by simpa using hp)
      have hs := World.cell?_spot h0
      have hbl := World.block_lt_of_cell? w _ h0
      unfold Addr.add at hs hbl
      simp at hs hbl
      exact ⟨by rw [hs], hbl⟩
    · intro j hj
      have hj' : j < len := by simpa using hj
      have hs := World.cell?_spot (hu 0 (by omega))
      unfold Addr.add at hs
      simp at hs
      subst hs
      have h0 := hu j hj'
      rw [add_plain] at h0
      simp only [List.getElem_map, List.getElem_range]
      exact h0
set_option maxRecDepth 100000 in
theorem trod_u64s {fuel : Nat} {cs : List Value} {x : DataW H × List MemPlace} (h : DataW.trod enc Tryz.prog w 0 sp held fuel 59 cs = some x) : ∃ l v, cs = [v] ∧ SlU w l v := by
  rcases open_slice1 Tryz.underlying59 cells64 h with ⟨hcs, _⟩ | ⟨a, len, cap, m, n, V, D, Pl, hcs, hb, hl, hm, hmm, hx, hi⟩
  · exact ⟨[], _, hcs, none, 0, 0, 0, rfl, fun h => absurd h (by simp), fun j h => absurd h (by simp)⟩
  · have hlm : len ≤ m := by rw [hmm]; split <;> omega
    obtain ⟨b, off, spot⟩ := a
    have each : ∀ j, j < len → ∃ u : Nat, w.cell? ((⟨b, off, spot⟩ : Addr).add j) = some (.int .u64 (u : Int)) ∧ u ≤ 18446744073709551615 := by
      intro j hj
      obtain ⟨h1, h2⟩ := hi j (by omega)
      obtain ⟨n, e0, _, wn⟩ := DataW.trod_int Tryz.underlying64 h2
      obtain ⟨u, rfl, hu⟩ := natU64 wn
      simp at e0
      exact ⟨u, by rw [h1, e0], hu⟩
    obtain ⟨u, hu⟩ := choose_lt each
    refine ⟨(List.range len).map u, _, hcs, some ⟨b, off, spot⟩, cap, b, off, by simp, ?_, ?_⟩
    · intro hp
      have h0 := (hu 0 (by simpa using hp)).1
      have hs := World.cell?_spot h0
      have hbl := World.block_lt_of_cell? w _ h0
      unfold Addr.add at hs hbl
      simp at hs hbl
      exact ⟨by rw [hs], hbl⟩
    · intro j hj
      have hj' : j < len := by simpa using hj
      have hs := World.cell?_spot (hu 0 (by omega)).1
      unfold Addr.add at hs
      simp at hs
      subst hs
      obtain ⟨h0, h1⟩ := hu j hj'
      rw [add_plain] at h0
      simp only [List.getElem_map, List.getElem_range]
      exact ⟨h0, h1⟩
set_option maxRecDepth 100000 in
theorem open_bss {fuel : Nat} {cs : List Value} {x : DataW H × List MemPlace} (h : DataW.trod enc Tryz.prog w 0 sp held fuel 56 cs = some x) : ∃ (l : List (List Bool)) (o : Option Addr) (cap b off : Nat), cs = [.slice o l.length cap] ∧ (0 < l.length → o = some ⟨b, off, none⟩ ∧ b < w.heap.size) ∧ BssIn w b off l := by
  rcases open_slice1 Tryz.underlying56 cells58 h with ⟨hcs, _⟩ | ⟨a, len, cap, m, n, V, D, Pl, hcs, hb, hl, hm, hmm, hx, hi⟩
  · exact ⟨[], none, 0, 0, 0, hcs, fun h => absurd h (by simp), fun j h => absurd h (by simp)⟩
  · have hlm : len ≤ m := by rw [hmm]; split <;> omega
    obtain ⟨b, off, spot⟩ := a
    have each : ∀ j, j < len → ∃ u : List Bool, ∃ v, w.cell? ((⟨b, off, spot⟩ : Addr).add j) = some v ∧ SlB w u v := by
      intro j hj
      obtain ⟨h1, h2⟩ := hi j (by omega)
      obtain ⟨l, v, e0, hv⟩ := trod_bools h2
      have e1 : V j = v := (List.cons.inj e0).1
      exact ⟨l, v, by rw [h1, e1], hv⟩
    obtain ⟨u, hu⟩ := choose_lt each
    refine ⟨(List.range len).map u, some ⟨b, off, spot⟩, cap, b, off, by simpa using hcs, ?_, ?_⟩
    · intro hp
      obtain ⟨v, h0, _⟩ := hu 0 (by simpa using hp)
      have hs := World.cell?_spot h0
      have hbl := World.block_lt_of_cell? w _ h0
      unfold Addr.add at hs hbl
      simp at hs hbl
      exact ⟨by rw [hs], hbl⟩
    · intro j hj
      have hj' : j < len := by simpa using hj
      obtain ⟨v0, h00, _⟩ := hu 0 (by omega)
      have hs := World.cell?_spot h00
      unfold Addr.add at hs
      simp at hs
      subst hs
      obtain ⟨v, h0, h1⟩ := hu j hj'
      rw [add_plain] at h0
      simp only [List.getElem_map, List.getElem_range]
      exact ⟨v, h0, h1⟩
set_option maxRecDepth 100000 in
theorem open_uss {fuel : Nat} {cs : List Value} {x : DataW H × List MemPlace} (h : DataW.trod enc Tryz.prog w 0 sp held fuel 57 cs = some x) : ∃ (l : List (List Nat)) (o : Option Addr) (cap b off : Nat), cs = [.slice o l.length cap] ∧ (0 < l.length → o = some ⟨b, off, none⟩ ∧ b < w.heap.size) ∧ UssIn w b off l := by
  rcases open_slice1 Tryz.underlying57 cells59 h with ⟨hcs, _⟩ | ⟨a, len, cap, m, n, V, D, Pl, hcs, hb, hl, hm, hmm, hx, hi⟩
  · exact ⟨[], none, 0, 0, 0, hcs, fun h => absurd h (by simp), fun j h => absurd h (by simp)⟩
  · have hlm : len ≤ m := by rw [hmm]; split <;> omega
    obtain ⟨b, off, spot⟩ := a
    have each : ∀ j, j < len → ∃ u : List Nat, ∃ v, w.cell? ((⟨b, off, spot⟩ : Addr).add j) = some v ∧ SlU w u v := by
      intro j hj
      obtain ⟨h1, h2⟩ := hi j (by omega)
      obtain ⟨l, v, e0, hv⟩ := trod_u64s h2
      have e1 : V j = v := (List.cons.inj e0).1
      exact ⟨l, v, by rw [h1, e1], hv⟩
    obtain ⟨u, hu⟩ := choose_lt each
    refine ⟨(List.range len).map u, some ⟨b, off, spot⟩, cap, b, off, by simpa using hcs, ?_, ?_⟩
    · intro hp
      obtain ⟨v, h0, _⟩ := hu 0 (by simpa using hp)
      have hs := World.cell?_spot h0
      have hbl := World.block_lt_of_cell? w _ h0
      unfold Addr.add at hs hbl
      simp at hs hbl
      exact ⟨by rw [hs], hbl⟩
    · intro j hj
      have hj' : j < len := by simpa using hj
      obtain ⟨v0, h00, _⟩ := hu 0 (by omega)
      have hs := World.cell?_spot h00
      unfold Addr.add at hs
      simp at hs
      subst hs
      obtain ⟨v, h0, h1⟩ := hu j hj'
      rw [add_plain] at h0
      simp only [List.getElem_map, List.getElem_range]
      exact ⟨v, h0, h1⟩
set_option maxRecDepth 100000 in
theorem trod_ac {fuel : Nat} {cs : List Value} {x : DataW H × List MemPlace} (h : DataW.trod enc Tryz.prog w 0 sp held fuel 39 cs = some x) :
    ∃ (q : Ac) (c0 c1 c2 c3 c4 c5 : Value), cs = [c0, c1, c2, c3, c4, c5] ∧ AcIn q c0 c1 c2 c3 c4 c5 := by
  obtain ⟨xs, n, _, rfl, hl, hlen, hf⟩ := DataW.trod_struct Tryz.underlying39 h
  rw [cells39] at hl
  match cs, hl with
  | [v0, v1, v2, v3, v4, v5], _ =>
    match xs, hlen with
    | [x0, x1, x2, x3, x4, x5], _ =>
      have f0 := hf 0 _ rfl
      have f1 := hf 1 _ rfl
      have f2 := hf 2 _ rfl
      have f3 := hf 3 _ rfl
      have f4 := hf 4 _ rfl
      have f5 := hf 5 _ rfl
      simp [cells5, cells9, cells30, cells4, cells37] at f0 f1 f2 f3 f4 f5
      obtain ⟨s1, e0, _, _⟩ := DataW.trod_string Tryz.underlying9 f0
      obtain ⟨s2, e1, _, _⟩ := DataW.trod_string Tryz.underlying9 f1
      obtain ⟨m, e2, _, wm⟩ := DataW.trod_int Tryz.underlying30 f2
      obtain ⟨bb, e3, _, wb⟩ := DataW.trod_int Tryz.underlying5 f3
      obtain ⟨cl, e4, _⟩ := DataW.trod_bool Tryz.underlying4 f4
      obtain ⟨ff, e5, _, wf⟩ := DataW.trod_int Tryz.underlying37 f5
      simp at e0 e1 e2 e3 e4 e5
      obtain ⟨m', rfl, hm⟩ := natU16 wm
      obtain ⟨b', rfl, hb⟩ := natU8 wb
      have hf8 := intI8 wf
      exact ⟨⟨s1, s2, m', b', cl, ff⟩, v0, v1, v2, v3, v4, v5, rfl, e0, e1, e2, hm, e3, hb, e4, e5, hf8.1, hf8.2⟩
set_option maxRecDepth 100000 in
theorem open_acts {fuel : Nat} {at0 : Option Addr} {n cap : Nat} {x : DataW H × List MemPlace} (h : DataW.trod enc Tryz.prog w 0 sp held fuel 31 [.slice at0 n cap] = some x) :
    ∃ (l : List Ac) (b off : Nat), n = l.length ∧ (0 < l.length → at0 = some ⟨b, off, none⟩ ∧ b < w.heap.size) ∧ AcsIn w b off l := by
  rcases open_slice Tryz.underlying31 h with ⟨hcs, _⟩ | ⟨a, len, cap', m, n', D, Pl, hcs, hb, hl, hm, hmm, hx, hi⟩
  · simp only [List.cons.injEq, Value.slice.injEq, and_true] at hcs
    obtain ⟨rfl, rfl, rfl⟩ := hcs
    exact ⟨[], 0, 0, rfl, fun h => absurd h (by simp), fun k h => absurd h (by simp)⟩
  · simp only [List.cons.injEq, Value.slice.injEq, and_true] at hcs
    obtain ⟨rfl, rfl, rfl⟩ := hcs
    have hnm : n ≤ m := by rw [hmm]; split <;> omega
    obtain ⟨b, off, spot⟩ := a
    have each : ∀ i, i < n → ∃ q : Ac, ∃ c0 c1 c2 c3 c4 c5, w.cell? (((⟨b, off, spot⟩ : Addr).add (i * 6)).add 0) = some c0 ∧ w.cell? (((⟨b, off, spot⟩ : Addr).add (i * 6)).add 1) = some c1 ∧ w.cell? (((⟨b, off, spot⟩ : Addr).add (i * 6)).add 2) = some c2 ∧ w.cell? (((⟨b, off, spot⟩ : Addr).add (i * 6)).add 3) = some c3 ∧ w.cell? (((⟨b, off, spot⟩ : Addr).add (i * 6)).add 4) = some c4 ∧ w.cell? (((⟨b, off, spot⟩ : Addr).add (i * 6)).add 5) = some c5 ∧ AcIn q c0 c1 c2 c3 c4 c5 := by
      intro i hlt
      obtain ⟨cs', h1, h2⟩ := hi i (by omega)
      rw [cells39] at h1
      obtain ⟨_, hlen2, hcell⟩ := World.cells?_some h1
      obtain ⟨q, c0, c1, c2, c3, c4, c5, rfl, hq⟩ := trod_ac h2
      exact ⟨q, c0, c1, c2, c3, c4, c5, hcell 0 (by omega), hcell 1 (by omega), hcell 2 (by omega), hcell 3 (by omega), hcell 4 (by omega), hcell 5 (by omega), hq⟩
    obtain ⟨q, hq⟩ := choose_lt each
    have hspot : 0 < n → spot = none ∧ b < w.heap.size := by
      intro hp
      obtain ⟨c0, c1, c2, c3, c4, c5, h0, _⟩ := hq 0 hp
      have hs := World.cell?_spot h0
      have hbl := World.block_lt_of_cell? w _ h0
      unfold Addr.add at hs hbl
      simp at hs hbl
      exact ⟨hs, hbl⟩
    refine ⟨(List.range n).map q, b, off, by simp, ?_, ?_⟩
    · intro hp
      have h1 := hspot (by simpa using hp)
      exact ⟨by rw [h1.1], h1.2⟩
    · intro k hk
      have hk' : k < n := by simpa using hk
      have hs := (hspot (by omega)).1
      subst hs
      obtain ⟨c0, c1, c2, c3, c4, c5, g0, g1, g2, g3, g4, g5, hn⟩ := hq k hk'
      rw [add_plain, add_plain] at g0 g1 g2 g3 g4 g5
      simp only [List.getElem_map, List.getElem_range]
      exact ⟨c0, c1, c2, c3, c4, c5, by simpa using g0, by simpa [Nat.add_assoc] using g1, by simpa [Nat.add_assoc] using g2, by simpa [Nat.add_assoc] using g3, by simpa [Nat.add_assoc] using g4, by simpa [Nat.add_assoc] using g5, hn⟩
end
theorem bools_later {w w' : World} {B : Nat} {l : List Bool} {b off : Nat} (h : BoolsIn w l b off) (hb : Below B w w') (hl : 0 < l.length → b < B) : BoolsIn w' l b off := fun j hj => (hb.cell (p := ⟨b, off + j, none⟩) (hl (by omega))).trans (h j hj)
theorem u64s_later {w w' : World} {B : Nat} {l : List Nat} {b off : Nat} (h : U64sIn w l b off) (hb : Below B w w') (hl : 0 < l.length → b < B) : U64sIn w' l b off := fun j hj => ⟨(hb.cell (p := ⟨b, off + j, none⟩) (hl (by omega))).trans (h j hj).1, (h j hj).2⟩
end Go.Proofs.YtjkpopdjmmgbbaaGreat.Fi

namespace Go.Proofs.YtjkpopdjmmgbbaaGreat.Fi
open Go.RowKit Dk Go.Maps

/-- An act's block. -/
def AcB (w : World) (na : Nat) (a b : ByteArray) (n bb : Nat) (cl : Bool) (f : Int) : Prop := w.heap[na]? = some (.cells (actC a b n bb cl f) 39 (0, 0))
theorem AcB.cells {w : World} {na : Nat} {a b : ByteArray} {n bb : Nat} {cl : Bool} {f : Int} (h : AcB w na a b n bb cl f) : w.cell? ⟨na, 0, none⟩ = some (.string a) ∧ w.cell? ⟨na, 1, none⟩ = some (.string b) ∧ w.cell? ⟨na, 2, none⟩ = some (.int .u16 (n : Int)) ∧ w.cell? ⟨na, 3, none⟩ = some (.int .u8 (bb : Int)) ∧ w.cell? ⟨na, 4, none⟩ = some (.bool cl) ∧ w.cell? ⟨na, 5, none⟩ = some (.int .i8 f) :=
  ⟨cell_of_row w na 0 _ _ _ h, cell_of_row w na 1 _ _ _ h, cell_of_row w na 2 _ _ _ h, cell_of_row w na 3 _ _ _ h, cell_of_row w na 4 _ _ _ h, cell_of_row w na 5 _ _ _ h⟩
theorem acb_new (w : World) (a b : ByteArray) (n bb : Nat) (cl : Bool) (f : Int) : AcB (w.alloc (.cells #[.string a, .string b, .int .u16 (n : Int), .int .u8 (bb : Int), .bool cl, .int .i8 f] 39)) w.heap.size a b n bb cl f := heap_alloc_new w _
/-- A disk, and a block that isn't its own. -/
def Py (na B : Nat) (w : World) (D k : Nat) (Q : St → Prop) : Prop :=
  ∃ (K : Nat → Prop) (g : Gh) (st : St), DW w K D g st ∧ (∀ b, K b → B ≤ b) ∧ g.nn ≤ 100 * k ∧ st.steps ≤ 100 * k ∧ st.P.length ≤ 10 ∧ Q st ∧ ¬ K na ∧ na < w.heap.size
section
variable {na B : Nat} {w w' : World} {D k : Nat} {Q : St → Prop}
theorem Px.py (h : Px B w D k Q) (o : Obj) : Py w.heap.size B (w.alloc o) D k Q := by
  obtain ⟨K, g, st, h1, h2, h3, h4, h5, h6⟩ := h
  exact ⟨K, g, st, h1.later (alloc_below w o), h2, h3, h4, h5, h6, fun hc => by have := h1.own.2.2.2.2.2 _ hc; omega, alloc_lt w o⟩
theorem Py.base (h : Py na B w D k Q) : B ≤ w.heap.size := by
  obtain ⟨K, g, st, h1, h2, _⟩ := h
  exact Nat.le_of_lt (Nat.lt_of_le_of_lt (h2 D h1.own.1) h1.lt)
theorem Py.later (h : Py na B w D k Q) (hb : Below w.heap.size w w') : Py na B w' D k Q := by
  obtain ⟨K, g, st, h1, h2, h3, h4, h5, h6, h7, h8⟩ := h
  exact ⟨K, g, st, h1.later hb, h2, h3, h4, h5, h6, h7, Nat.lt_of_lt_of_le h8 hb.size⟩
theorem Py.fuse (h : Py na B w D k Q) (n : Int) (hn : -1000000 ≤ n ∧ n ≤ 1000000) (hQ : ∀ st, Q st → Q { st with fuse := n }) :
    Calls Tryz.prog 13 #[.pointer (some ⟨D, 0, none⟩), .int .i64 n] w fun e w' => e = .returned (.tuple #[]) ∧ Py na B w' D k Q ∧ Below B w w' ∧ w'.heap[na]? = w.heap[na]? := by
  have hB := h.base
  obtain ⟨K, g, st, h1, h2, h3, h4, h5, h6, h7, h8⟩ := h
  refine (fuse_any h1 n hn).mono fun e w' ⟨he, hd, hkp⟩ => ⟨he, ⟨K, g, _, hd, h2, h3, h4, h5, hQ st h6, h7, Nat.lt_of_lt_of_le h8 hkp.size⟩, hkp.below (fun b hb => ?_) hB, hkp.block na h8 (fun e => ?_)⟩
  · have hb' : b = D := hb
    rw [hb']
    exact h2 D h1.own.1
  · have e' : na = D := e
    rw [e'] at h7
    exact h7 h1.own.1
theorem Py.save {x : Option ByteArray} {next : ByteArray} (h : Py na B w D k (fun st => Wh st (x.map sealB))) (hk : k ≤ 100) (hn : next.size ≤ 3000) :
    Calls Tryz.prog 16 #[.pointer (some ⟨D, 0, none⟩), .string mainN, .string spareN, .string next] w fun e w' => ∃ E : Nat, e = .returned (.int .i64 (E : Int)) ∧ Px B w' D (k + 1) (AftX x next E) ∧ Below B w w' ∧ w'.heap[na]? = w.heap[na]? := by
  have hB := h.base
  obtain ⟨K, g, st, h1, h2, h3, h4, h5, h6, h7, h8⟩ := h
  refine (save_any h1 mainN spareN next (by decide) (by decide) (by omega) (by omega) main_ne).mono fun e w' hq => ?_
  obtain ⟨E, he, g', s', hd, hg, hkp, hp, hs, hq⟩ := hq
  exact ⟨E, he, ⟨_, g', s', hd, kn_base h2 hB, by omega, by omega, by have := h6.p; rw [this] at hp; simp at hp; omega, save_whole h6 h1.names.isMap h1.filN hq⟩, hkp.below h2 hB, hkp.block na h8 h7⟩
end
/-- A row whose block lies ahead of a place. -/
def RbB (B : Nat) (w : World) (v : Value) : Prop := ∃ (l : List Bool) (o : Option Addr) (cap b off : Nat), v = .slice o l.length cap ∧ (0 < l.length → o = some ⟨b, off, none⟩ ∧ b < B) ∧ BoolsIn w l b off
def RuB (B : Nat) (w : World) (v : Value) : Prop := ∃ (l : List Nat) (o : Option Addr) (cap b off : Nat), v = .slice o l.length cap ∧ (0 < l.length → o = some ⟨b, off, none⟩ ∧ b < B) ∧ U64sIn w l b off
theorem RbB.nil (B : Nat) (w : World) : RbB B w (.slice none 0 0) := ⟨[], none, 0, 0, 0, rfl, fun h => absurd h (by simp), fun j h => absurd h (by simp)⟩
theorem RuB.nil (B : Nat) (w : World) : RuB B w (.slice none 0 0) := ⟨[], none, 0, 0, 0, rfl, fun h => absurd h (by simp), fun j h => absurd h (by simp)⟩
theorem SlB.rb {w w' : World} {l : List Bool} {v : Value} (h : SlB w l v) (hb : Below w.heap.size w w') : RbB w.heap.size w' v := by
  obtain ⟨o, cap, b, off, rfl, h1, h2⟩ := h
  exact ⟨l, o, cap, b, off, rfl, h1, bools_later h2 hb (fun hp => (h1 hp).2)⟩
theorem SlU.ru {w w' : World} {l : List Nat} {v : Value} (h : SlU w l v) (hb : Below w.heap.size w w') : RuB w.heap.size w' v := by
  obtain ⟨o, cap, b, off, rfl, h1, h2⟩ := h
  exact ⟨l, o, cap, b, off, rfl, h1, u64s_later h2 hb (fun hp => (h1 hp).2)⟩
theorem SlB.shape {w : World} {l : List Bool} {v : Value} (h : SlB w l v) : ∃ o n cap, v = .slice o n cap := by
  obtain ⟨o, cap, b, off, rfl, h1, h2⟩ := h
  exact ⟨_, _, _, rfl⟩
theorem SlU.shape {w : World} {l : List Nat} {v : Value} (h : SlU w l v) : ∃ o n cap, v = .slice o n cap := by
  obtain ⟨o, cap, b, off, rfl, h1, h2⟩ := h
  exact ⟨_, _, _, rfl⟩
theorem Px.crashV {B : Nat} {w : World} {D k : Nat} {x : Option ByteArray} {next : ByteArray} {E : Nat} (h : Px B w D k (AftX x next E)) (hk : k ≤ 100) (v5 v6 : Value) (h5 : RbB B w v5) (h6 : RuB B w v6) :
    Calls Tryz.prog 23 #[.pointer (some ⟨D, 0, none⟩), v5, v6] w fun e w' => e = .returned (.tuple #[]) ∧ (∃ x', Px B w' D (k + 1) (fun st => Po st (x'.map sealB)) ∧ (E = 0 → x' = some next) ∧ (E ≠ 0 → x' = x ∨ x' = some next)) ∧ Below B w w' := by
  obtain ⟨l, o, cap, b, off, rfl, a1, a2⟩ := h5
  obtain ⟨l2, o2, cap2, b2, off2, rfl, c1, c2⟩ := h6
  exact h.crash hk l o cap b off a1 a2 l2 o2 cap2 b2 off2 c1 c2
/-- What the law knows. -/
def nowX (now : ByteArray) (th : Bool) : Option ByteArray := if th = true then some now else none
def PxF (B : Nat) (w : World) (D k : Nat) (x : Option ByteArray) : Prop := Px B w D k (fun st => Po st (x.map sealB) ∧ st.fuse = -1)
section
variable {w wz : World} {D k : Nat} {x : Option ByteArray}
theorem k13t (hp : Px w.heap.size wz D k (fun st => Po st (x.map sealB))) (hb : Hid (Below w.heap.size w wz)) :
    Calls Tryz.prog 13 #[.pointer (some ⟨D, 0, none⟩), .int .i64 (-1)] wz fun e w' => e = .returned (.tuple #[]) ∧ Hid (PxF w.heap.size w' D k x) ∧ Hid (Below w.heap.size w w') :=
  (hp.fuse (fun st => Po st (x.map sealB) ∧ st.fuse = -1) (-1) ⟨by omega, by omega⟩ (fun st h => ⟨⟨h.up, h.p, h.sn, h.nm⟩, rfl⟩)).mono fun e w' ⟨he, h1, h2⟩ => ⟨he, Lib.hid h1, Lib.hid (hb.out.trans h2)⟩
theorem k19t (hx : Fits x) (hp : Hid (PxF w.heap.size wz D k x)) (hb : Hid (Below w.heap.size w wz)) :
    Calls Tryz.prog 19 #[.pointer (some ⟨D, 0, none⟩), .string ⟨#[109, 97, 105, 110]⟩] wz fun e w' => e = .returned (ldX x) ∧ Hid (PxF w.heap.size w' D k x) ∧ Hid (Below w.heap.size w w') :=
  (Px.load (x := x) hp.out (fun st h => h.1) hx).mono fun e w' ⟨he, h1, h2⟩ => ⟨he, Lib.hid h1, Lib.hid (hb.out.trans h2)⟩
theorem k14t (hk : k ≤ 100) (hp : Hid (PxF w.heap.size wz D k x)) (hb : Hid (Below w.heap.size w wz)) :
    Calls Tryz.prog 14 #[.pointer (some ⟨D, 0, none⟩), .slice (some ⟨wz.heap.size, 0, none⟩) 1 1] (wz.alloc (.cells #[.string ⟨#[115, 112, 97, 114, 101]⟩] 9)) fun e w' => e = .returned (.int .i64 0) ∧ Hid (Px w.heap.size w' D (k + 1) (fun st => Wh st (x.map sealB))) ∧ Hid (Below w.heap.size w w') :=
  (Px.clean hp.out hk).mono fun e w' ⟨he, h1, h2⟩ => ⟨he, Lib.hid h1, Lib.hid (hb.out.trans h2)⟩
end
end Go.Proofs.YtjkpopdjmmgbbaaGreat.Fi

namespace Go.Proofs.YtjkpopdjmmgbbaaGreat.Fi
open Go.RowKit Dk Go.Maps

theorem str_ne {a b : ByteArray} (h : a ≠ b) : (a.toList == b.toList) = false := by
  rw [beq_eq_false_iff_ne]
  intro e
  rw [Lib.toList_data, Lib.toList_data] at e
  exact h (ByteArray.ext (Array.ext' e))
def findR (n : Nat) : Code → Option Code
  | .seq (.region k ops d) b => if k = n then some (.seq (.region k ops d) b) else findR n b
  | .seq a b => match findR n a with
    | some c => some c
    | none => findR n b
  | .block _ c => findR n c
  | .loop c => findR n c
  | .scope c => findR n c
  | .cond _ a b => match findR n a with
    | some c => some c
    | none => findR n b
  | _ => none
noncomputable def tail0 : Code := (Tryz.f5.body.bind (findR 23)).getD .skip
noncomputable def hdC : Code := match tail0 with
  | .seq a _ => a
  | c => c
noncomputable def tlC : Code := match tail0 with
  | .seq _ b => b
  | c => c
/-- A frame of the law: what the tail writes is v's, all else u's. -/
def fw (D : Nat) (u : Nat → Value) (now : ByteArray) (th : Bool) (next : ByteArray) (v : Nat → Value) : Act := ⟨List.toArray [u 0, u 1, u 2, u 3, u 4, u 5, u 6, .pointer (some ⟨D, 0, none⟩), u 8, .string now, .bool th, u 11, u 12, .string next, u 14, u 15, u 16, v 17, v 18, u 19, u 20, u 21, u 22, u 23, u 24, u 25, u 26, u 27, u 28, u 29, u 30, u 31, u 32, u 33, u 34, u 35, u 36, u 37, u 38, u 39, u 40, u 41, u 42, u 43, u 44, u 45, u 46, u 47, u 48, u 49, u 50, u 51, u 52, u 53, u 54, u 55, u 56, u 57, u 58, u 59, u 60, u 61, u 62, u 63, u 64, u 65, u 66, u 67, u 68, u 69, u 70, u 71, u 72, u 73, u 74, u 75, u 76, u 77, u 78, u 79, u 80, u 81, u 82, u 83, v 84, v 85, v 86, v 87, v 88, v 89, v 90, v 91, v 92, v 93, v 94, v 95, v 96, v 97, v 98, v 99, v 100, v 101, v 102, v 103, v 104, v 105, v 106, v 107, v 108, v 109, v 110, v 111, v 112, v 113, v 114, v 115, v 116, v 117, v 118, v 119, v 120, v 121, v 122, u 123], []⟩
section
variable {w wz : World} {D k : Nat} {x : Option ByteArray} {next now : ByteArray} {th : Bool} {X : Exit → Act → World → Prop} {u : Nat → Value}
def QX (w : World) (D k : Nat) (next : ByteArray) (X : Exit → Act → World → Prop) (u : Nat → Value) : Prop :=
  ∀ (a' : Act) (now' : ByteArray) (th' : Bool) (wz' : World), a' = fw D u now' th' next (fun i => a'.tmps.getD i undef) → Hid (Px w.heap.size wz' D (k + 1) (fun st => Wh st ((nowX now' th').map sealB))) → Hid (Fits (nowX now' th')) → Hid (Below w.heap.size w wz') → X .normal a' wz'
set_option maxRecDepth 1000000 in
set_option maxHeartbeats 4000000 in
theorem tail_same (v : Nat → Value) (hk : k ≤ 100) (hp : Px w.heap.size wz D k (fun st => Po st ((some next).map sealB))) (hf : Fits (some next)) (hb : Hid (Below w.heap.size w wz)) (HQ : Hid (QX w D k next X u)) :
    Code.wp Tryz.prog hdC (Exit.then (fun a w => Code.wp Tryz.prog tlC X a w) X) (fw D u now th next v) wz := by
  suffices h : ∀ K : Act → World → Prop, (∀ a w, Code.wp Tryz.prog tlC X a w → K a w) → Code.wp Tryz.prog hdC (Exit.then K X) (fw D u now th next v) wz from h _ (fun _ _ h => h)
  intro K hK
  obtain ⟨c, hc⟩ : ∃ c, c = tlC := ⟨_, rfl⟩
  rw [← hc] at hK
  conv at hc => rhs; whnf
  subst hc
  conv => arg 2; whnf
  have K13 := Lib.hid (k13t (x := some next) hp hb)
  have K19 : Hid (∀ w6, Hid (PxF w.heap.size w6 D k (some next)) → Hid (Below w.heap.size w w6) → Calls Tryz.prog 19 #[.pointer (some ⟨D, 0, none⟩), .string ⟨#[109, 97, 105, 110]⟩] w6 fun e w' => e = .returned (.tuple #[.string next, .int .i64 0]) ∧ Hid (PxF w.heap.size w' D k (some next)) ∧ Hid (Below w.heap.size w w')) := Lib.hid (fun w6 h1 h2 => k19t hf h1 h2)
  have K14 := Lib.hid (fun w6 (h1 : Hid (PxF w.heap.size w6 D k (some next))) (h2 : Hid (Below w.heap.size w w6)) => k14t hk h1 h2)
  have HF' := Lib.hid hf
  clear hf hp hb
  unfold fw
  go_wp2_with (first
    | (go_at_call 13; ((with_reducible refine (K13.out).mono ?_); rintro e w11 ⟨rfl, HP11, HB11⟩))
    | (go_at_call 19; ((with_reducible refine (K19.out _ HP11 HB11).mono ?_); rintro e w12 ⟨rfl, HP12, HB12⟩))
    | (go_at_call 14; ((with_reducible refine (K14.out _ HP12 HB12).mono ?_); rintro e w13 ⟨rfl, HP13, HB13⟩)))
  all_goals exact HQ.out _ next true _ rfl HP13 HF' HB13
set_option maxRecDepth 1000000 in
set_option maxHeartbeats 4000000 in
theorem tail_old (v : Nat → Value) (hk : k ≤ 100) (hne : now ≠ next) (hp : Px w.heap.size wz D k (fun st => Po st ((some now).map sealB))) (hf : Fits (some now)) (hb : Hid (Below w.heap.size w wz)) (HQ : Hid (QX w D k next X u)) :
    Code.wp Tryz.prog hdC (Exit.then (fun a w => Code.wp Tryz.prog tlC X a w) X) (fw D u now true next v) wz := by
  suffices h : ∀ K : Act → World → Prop, (∀ a w, Code.wp Tryz.prog tlC X a w → K a w) → Code.wp Tryz.prog hdC (Exit.then K X) (fw D u now true next v) wz from h _ (fun _ _ h => h)
  intro K hK
  obtain ⟨c, hc⟩ : ∃ c, c = tlC := ⟨_, rfl⟩
  rw [← hc] at hK
  conv at hc => rhs; whnf
  subst hc
  have hnb := str_ne hne
  conv => arg 2; whnf
  have K13 := Lib.hid (k13t (x := some now) hp hb)
  have K19 : Hid (∀ w6, Hid (PxF w.heap.size w6 D k (some now)) → Hid (Below w.heap.size w w6) → Calls Tryz.prog 19 #[.pointer (some ⟨D, 0, none⟩), .string ⟨#[109, 97, 105, 110]⟩] w6 fun e w' => e = .returned (.tuple #[.string now, .int .i64 0]) ∧ Hid (PxF w.heap.size w' D k (some now)) ∧ Hid (Below w.heap.size w w')) := Lib.hid (fun w6 h1 h2 => k19t hf h1 h2)
  have K14 := Lib.hid (fun w6 (h1 : Hid (PxF w.heap.size w6 D k (some now))) (h2 : Hid (Below w.heap.size w w6)) => k14t hk h1 h2)
  have HF' := Lib.hid hf
  clear hf hp hb
  unfold fw
  go_wp2_with (first
    | (go_at_call 13; ((with_reducible refine (K13.out).mono ?_); rintro e w11 ⟨rfl, HP11, HB11⟩))
    | (go_at_call 19; ((with_reducible refine (K19.out _ HP11 HB11).mono ?_); rintro e w12 ⟨rfl, HP12, HB12⟩))
    | (go_at_call 14; ((with_reducible refine (K14.out _ HP12 HB12).mono ?_); rintro e w13 ⟨rfl, HP13, HB13⟩)))
  all_goals exact HQ.out _ now true _ rfl HP13 HF' HB13
set_option maxRecDepth 1000000 in
set_option maxHeartbeats 4000000 in
theorem tail_none (v : Nat → Value) (hk : k ≤ 100) (hp : Px w.heap.size wz D k (fun st => Po st ((none : Option ByteArray).map sealB))) (hf : Fits none) (hb : Hid (Below w.heap.size w wz)) (HQ : Hid (QX w D k next X u)) :
    Code.wp Tryz.prog hdC (Exit.then (fun a w => Code.wp Tryz.prog tlC X a w) X) (fw D u now false next v) wz := by
  suffices h : ∀ K : Act → World → Prop, (∀ a w, Code.wp Tryz.prog tlC X a w → K a w) → Code.wp Tryz.prog hdC (Exit.then K X) (fw D u now false next v) wz from h _ (fun _ _ h => h)
  intro K hK
  obtain ⟨c, hc⟩ : ∃ c, c = tlC := ⟨_, rfl⟩
  rw [← hc] at hK
  conv at hc => rhs; whnf
  subst hc
  conv => arg 2; whnf
  have K13 := Lib.hid (k13t (x := none) hp hb)
  have K19 : Hid (∀ w6, Hid (PxF w.heap.size w6 D k (none)) → Hid (Below w.heap.size w w6) → Calls Tryz.prog 19 #[.pointer (some ⟨D, 0, none⟩), .string ⟨#[109, 97, 105, 110]⟩] w6 fun e w' => e = .returned (.tuple #[.string ⟨#[]⟩, .int .i64 12]) ∧ Hid (PxF w.heap.size w' D k (none)) ∧ Hid (Below w.heap.size w w')) := Lib.hid (fun w6 h1 h2 => k19t hf h1 h2)
  have K14 := Lib.hid (fun w6 (h1 : Hid (PxF w.heap.size w6 D k (none))) (h2 : Hid (Below w.heap.size w w6)) => k14t hk h1 h2)
  have HF' := Lib.hid hf
  clear hf hp hb
  unfold fw
  go_wp2_with (first
    | (go_at_call 13; ((with_reducible refine (K13.out).mono ?_); rintro e w11 ⟨rfl, HP11, HB11⟩))
    | (go_at_call 19; ((with_reducible refine (K19.out _ HP11 HB11).mono ?_); rintro e w12 ⟨rfl, HP12, HB12⟩))
    | (go_at_call 14; ((with_reducible refine (K14.out _ HP12 HB12).mono ?_); rintro e w13 ⟨rfl, HP13, HB13⟩)))
  all_goals exact HQ.out _ now false _ rfl HP13 HF' HB13
theorem tail_any (v : Nat → Value) (hk : k ≤ 100) (hp : Px w.heap.size wz D k (fun st => Po st (x.map sealB))) (hf : Fits x) (hb : Hid (Below w.heap.size w wz)) (hx : x = nowX now th ∨ x = some next) (HQ : Hid (QX w D k next X u)) :
    Code.wp Tryz.prog hdC (Exit.then (fun a w => Code.wp Tryz.prog tlC X a w) X) (fw D u now th next v) wz := by
  by_cases hxn : x = some next
  · subst hxn
    exact tail_same v hk hp hf hb HQ
  · have hxx : x = nowX now th := hx.resolve_right hxn
    cases th
    · subst hxx
      exact tail_none v hk hp hf hb HQ
    · subst hxx
      exact tail_old v hk (fun e => hxn (by rw [e]; rfl)) hp hf hb HQ
end
section
variable {x0 x1 x2 x3 x4 x5 x6 x8 x11 x12 x14 x15 x16 x17 x18 x19 x20 x21 x22 x23 x24 x25 x26 x27 x28 x29 x30 x31 x32 x33 x34 x35 x36 x37 x38 x39 x40 x41 x42 x43 x44 x45 x46 x47 x48 x49 x50 x51 x52 x53 x54 x55 x56 x57 x58 x59 x60 x61 x62 x63 x64 x65 x66 x67 x68 x69 x70 x71 x72 x73 x74 x75 x76 x77 x78 x79 x80 x81 x82 x83 x84 x85 x86 x87 x88 x89 x90 x91 x92 x93 x94 x95 x96 x97 x98 x99 x100 x101 x102 x103 x104 x105 x106 x107 x108 x109 x110 x111 x112 x113 x114 x115 x116 x117 x118 x119 x120 x121 x122 x123 : Value}
set_option maxRecDepth 1000000 in
set_option maxHeartbeats 4000000 in
theorem tail_at {w wz : World} {D k : Nat} {x : Option ByteArray} {next now : ByteArray} {th : Bool} {X : Exit → Act → World → Prop} {K : Act → World → Prop} (hK : ∀ a w, Code.wp Tryz.prog tlC X a w → K a w) (hk : k ≤ 100) (hp : Px w.heap.size wz D k (fun st => Po st (x.map sealB))) (hf : Fits x) (hb : Hid (Below w.heap.size w wz)) (hx : x = nowX now th ∨ x = some next)
    (HQ : ∀ (v' : Nat → Value) (now' : ByteArray) (th' : Bool) (wz' : World), Hid (Px w.heap.size wz' D (k + 1) (fun st => Wh st ((nowX now' th').map sealB))) → Hid (Fits (nowX now' th')) → Hid (Below w.heap.size w wz') → X .normal ⟨#[x0, x1, x2, x3, x4, x5, x6, .pointer (some ⟨D, 0, none⟩), x8, .string now', .bool th', x11, x12, .string next, x14, x15, x16, v' 17, v' 18, x19, x20, x21, x22, x23, x24, x25, x26, x27, x28, x29, x30, x31, x32, x33, x34, x35, x36, x37, x38, x39, x40, x41, x42, x43, x44, x45, x46, x47, x48, x49, x50, x51, x52, x53, x54, x55, x56, x57, x58, x59, x60, x61, x62, x63, x64, x65, x66, x67, x68, x69, x70, x71, x72, x73, x74, x75, x76, x77, x78, x79, x80, x81, x82, x83, v' 84, v' 85, v' 86, v' 87, v' 88, v' 89, v' 90, v' 91, v' 92, v' 93, v' 94, v' 95, v' 96, v' 97, v' 98, v' 99, v' 100, v' 101, v' 102, v' 103, v' 104, v' 105, v' 106, v' 107, v' 108, v' 109, v' 110, v' 111, v' 112, v' 113, v' 114, v' 115, v' 116, v' 117, v' 118, v' 119, v' 120, v' 121, v' 122, x123], []⟩ wz') :
    Code.wp Tryz.prog hdC (Exit.then K X) ⟨#[x0, x1, x2, x3, x4, x5, x6, .pointer (some ⟨D, 0, none⟩), x8, .string now, .bool th, x11, x12, .string next, x14, x15, x16, x17, x18, x19, x20, x21, x22, x23, x24, x25, x26, x27, x28, x29, x30, x31, x32, x33, x34, x35, x36, x37, x38, x39, x40, x41, x42, x43, x44, x45, x46, x47, x48, x49, x50, x51, x52, x53, x54, x55, x56, x57, x58, x59, x60, x61, x62, x63, x64, x65, x66, x67, x68, x69, x70, x71, x72, x73, x74, x75, x76, x77, x78, x79, x80, x81, x82, x83, x84, x85, x86, x87, x88, x89, x90, x91, x92, x93, x94, x95, x96, x97, x98, x99, x100, x101, x102, x103, x104, x105, x106, x107, x108, x109, x110, x111, x112, x113, x114, x115, x116, x117, x118, x119, x120, x121, x122, x123], []⟩ wz := by
  refine Code.wp_mono (fun e a w h => ?_) (tail_any (u := fun k => List.getD [x0, x1, x2, x3, x4, x5, x6, undef, x8, undef, undef, x11, x12, undef, x14, x15, x16, x17, x18, x19, x20, x21, x22, x23, x24, x25, x26, x27, x28, x29, x30, x31, x32, x33, x34, x35, x36, x37, x38, x39, x40, x41, x42, x43, x44, x45, x46, x47, x48, x49, x50, x51, x52, x53, x54, x55, x56, x57, x58, x59, x60, x61, x62, x63, x64, x65, x66, x67, x68, x69, x70, x71, x72, x73, x74, x75, x76, x77, x78, x79, x80, x81, x82, x83, x84, x85, x86, x87, x88, x89, x90, x91, x92, x93, x94, x95, x96, x97, x98, x99, x100, x101, x102, x103, x104, x105, x106, x107, x108, x109, x110, x111, x112, x113, x114, x115, x116, x117, x118, x119, x120, x121, x122, x123] k undef) (fun k => List.getD [x0, x1, x2, x3, x4, x5, x6, undef, x8, undef, undef, x11, x12, undef, x14, x15, x16, x17, x18, x19, x20, x21, x22, x23, x24, x25, x26, x27, x28, x29, x30, x31, x32, x33, x34, x35, x36, x37, x38, x39, x40, x41, x42, x43, x44, x45, x46, x47, x48, x49, x50, x51, x52, x53, x54, x55, x56, x57, x58, x59, x60, x61, x62, x63, x64, x65, x66, x67, x68, x69, x70, x71, x72, x73, x74, x75, x76, x77, x78, x79, x80, x81, x82, x83, x84, x85, x86, x87, x88, x89, x90, x91, x92, x93, x94, x95, x96, x97, x98, x99, x100, x101, x102, x103, x104, x105, x106, x107, x108, x109, x110, x111, x112, x113, x114, x115, x116, x117, x118, x119, x120, x121, x122, x123] k undef) hk hp hf hb hx (Lib.hid (fun a' now' th' wz' ha h1 h2 h3 => ?_)) : Code.wp Tryz.prog hdC (Exit.then (fun a w => Code.wp Tryz.prog tlC X a w) X) ⟨#[x0, x1, x2, x3, x4, x5, x6, .pointer (some ⟨D, 0, none⟩), x8, .string now, .bool th, x11, x12, .string next, x14, x15, x16, x17, x18, x19, x20, x21, x22, x23, x24, x25, x26, x27, x28, x29, x30, x31, x32, x33, x34, x35, x36, x37, x38, x39, x40, x41, x42, x43, x44, x45, x46, x47, x48, x49, x50, x51, x52, x53, x54, x55, x56, x57, x58, x59, x60, x61, x62, x63, x64, x65, x66, x67, x68, x69, x70, x71, x72, x73, x74, x75, x76, x77, x78, x79, x80, x81, x82, x83, x84, x85, x86, x87, x88, x89, x90, x91, x92, x93, x94, x95, x96, x97, x98, x99, x100, x101, x102, x103, x104, x105, x106, x107, x108, x109, x110, x111, x112, x113, x114, x115, x116, x117, x118, x119, x120, x121, x122, x123], []⟩ wz)
  · cases e with
    | normal => exact hK _ _ h
    | _ => exact h
  · rw [ha]
    exact HQ (fun i => a'.tmps.getD i undef) now' th' wz' h1 h2 h3
end
end Go.Proofs.YtjkpopdjmmgbbaaGreat.Fi
